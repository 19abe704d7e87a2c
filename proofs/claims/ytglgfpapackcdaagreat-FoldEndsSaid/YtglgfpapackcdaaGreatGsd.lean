/- The walk of LentProps: a row of props handed in, each with marks behind its set's end, and marks behind the row's. -/
/- The walks of SameProp, KeptProp. -/
import Derived.Test.YtglgfpapackcdaaGreatGsb

namespace Go.Proofs.YtglgfpapackcdaaGreat
open Go.RowKit Tnr

theorem info_prop : (Tryz.prog.info? 37).map (fun i => (i.zero, i.size, i.bytes)) = some (some (.agg #[.string ⟨#[]⟩, .slice none 0 0]), 2, 40) := by kernel_rfl
def encP (x : PV) : List Value := [.string x.1, .slice x.2.1 x.2.2.2.length x.2.2.1]
theorem encPs_length (l : List PV) : (l.flatMap encP).length = l.length * 2 := by
  induction l with
  | nil => rfl
  | cons a l ih => rw [List.flatMap_cons, List.length_append, ih, List.length_cons]; simp [encP]; omega
theorem encPs_at : ∀ (l : List PV) (i : Nat), i < l.length → (l.flatMap encP)[i * 2]? = some (.string (gp l i).1) ∧ (l.flatMap encP)[i * 2 + 1]? = some (.slice (gp l i).2.1 (gp l i).2.2.2.length (gp l i).2.2.1)
  | [], i, h => by simp at h
  | a :: l, 0, _ => ⟨rfl, rfl⟩
  | a :: l, i + 1, h => by
    have := encPs_at l i (by simpa using h)
    rw [List.flatMap_cons, show (i + 1) * 2 = i * 2 + 2 by omega]
    exact this
def OwnP (w : World) (B : Nat) (v : Value) (l : List PV) : Prop := w.ownsRow B 37 2 v l.length (l.flatMap encP)
theorem ownP_below {w w' : World} {B : Nat} {v : Value} {l : List PV} (h : OwnP w B v l) (hb : Below w.heap.size w w') : OwnP w' B v l := by
  obtain ⟨h1, h2⟩ := h
  refine ⟨h1, ?_⟩
  rcases h2 with h2 | ⟨g, cap, cur, rfl, hg, hh, r⟩
  · exact .inl h2
  · exact .inr ⟨g, cap, cur, rfl, hg, by rw [hb.block g (lt_of_block hh)]; exact hh, r⟩
theorem ownP_down {w : World} {B B' : Nat} {v : Value} {l : List PV} (h : OwnP w B v l) (hB : B' ≤ B) : OwnP w B' v l := World.ownsRow.mono h hB
theorem ownP_form {w : World} {B : Nat} {v : Value} {l : List PV} (h : OwnP w B v l) : ∃ q d, v = .slice q l.length d := by
  rcases h.2 with ⟨rfl, hn⟩ | ⟨g, cap, cur, rfl, _⟩
  · exact ⟨none, 0, by rw [hn]⟩
  · exact ⟨_, _, rfl⟩
theorem ownP_some {w : World} {B no : Nat} {q : Option Addr} {d : Nat} {l : List PV} (h : OwnP w B (.slice q no d) l) (hn : 0 < no) (hl : no = l.length) : ∃ g, q = some ⟨g, 0, none⟩ ∧ no ≤ d ∧ d ≤ 9223372036854775807 := by
  subst hl
  rcases h.2 with ⟨_, h0⟩ | ⟨g, cap, cur, e, _, _, hnc, hcm, _⟩
  · omega
  · simp only [Value.slice.injEq, true_and] at e
    obtain ⟨rfl, rfl⟩ := e
    exact ⟨g, rfl, hnc, by simpa [maxLen] using hcm⟩
theorem ownP_appended {w' : World} {B : Nat} {v' : Value} {l : List PV} {n : Nat} {x : PV} {k : Nat} (hn : n = l.length) (hk : k = x.2.2.2.length) (h : w'.ownsRow B 37 2 v' (n + 1) (l.flatMap encP ++ [.string x.1, .slice x.2.1 k x.2.2.1])) : OwnP w' B v' (l ++ [x]) := by
  unfold OwnP
  rw [List.length_append, ← hn, List.flatMap_append]
  rw [hk] at h
  exact h
def LentP (w : World) (B : Nat) (x y : PV) : Prop := y.1 = x.1 ∧ LentOf w B x.2 y.2
theorem LentP.below {w w' : World} {B : Nat} {x y : PV} (h : LentP w B x y) (hb : Below w.heap.size w w') : LentP w' B x y := ⟨h.1, h.2.below hb⟩
theorem ownR_besideP {w w' : World} {B : Nat} {u v : Value} {l : List R} {ys : List PV} (h : OwnR w B v l) (ho : OwnP w B u ys) (hg : w.grownBy w' u.ownBlock) : OwnR w' B v l := by
  refine World.ownsRow.kept h hg ?_
  rcases ho.2 with ⟨e2, _⟩ | ⟨g2, cap, cur, e2, _, hh, _⟩
  · rw [e2]
    rcases hv : v.ownBlock with _ | g
    · exact .inl rfl
    · exact .inr (by simp [Value.ownBlock])
  · rw [e2]
    exact .inr (ownR_ne h hh (by decide))
theorem LentP.beside {w w' : World} {B : Nat} {u : Value} {x y : PV} {ys : List PV} (h : LentP w B x y) (ho : OwnP w B u ys) (hg : w.grownBy w' u.ownBlock) : LentP w' B x y := by
  obtain ⟨h0, h1, g, h2, h3, h4, h5⟩ := h
  exact ⟨h0, h1, g, h2, h3, h4, ownR_besideP h5 ho hg⟩
theorem gp_snoc_lt {ys : List PV} {y : PV} {i : Nat} (h : i < ys.length) : gp (ys ++ [y]) i = gp ys i := by
  rw [gp_get (by rw [List.length_append]; omega), gp_get h, List.getElem_append_left h]
theorem gp_snoc_eq {ys : List PV} {y : PV} : gp (ys ++ [y]) ys.length = y := by
  rw [gp_get (by rw [List.length_append]; simp)]; simp
def markP (i : Nat) : PV := (mt i, none, 0, [])
def marksP (k : Nat) : List PV := (List.range k).map markP
theorem marksP_succ (k : Nat) : marksP (k + 1) = marksP k ++ [markP k] := by unfold marksP; rw [List.range_succ, List.map_append]; rfl
theorem marksP_length (k : Nat) : (marksP k).length = k := by simp [marksP]

def LPs (w : World) (B n g cap : Nat) (xs ys : List PV) : Prop :=
  n = ys.length ∧ n + 12 ≤ cap ∧ cap ≤ 9223372036854775807 ∧ OwnP w B (.slice (some ⟨g, 0, none⟩) (n + 12) cap) (ys ++ marksP 12) ∧ (∀ i, i < n → LentP w B (gp xs i) (gp ys i))
theorem LPs.below {w w' : World} {B n g cap : Nat} {xs ys : List PV} (h : LPs w B n g cap xs ys) (hb : Below w.heap.size w w') : LPs w' B n g cap xs ys := ⟨h.1, h.2.1, h.2.2.1, ownP_below h.2.2.2.1 hb, fun i hi => (h.2.2.2.2 i hi).below hb⟩
def LentPsPost (n : Nat) (xs : List PV) (w : World) (e : Ending) (w' : World) : Prop :=
  ∃ g cap ys, e = .returned (.slice (some ⟨g, 0, none⟩) n cap) ∧ LPs w' w.heap.size n g cap xs ys ∧ Below w.heap.size w w'

set_option maxHeartbeats 3200000 in
set_option maxRecDepth 100000 in
theorem lentProps_any (p : Option Addr) (c n : Nat) (xs : List PV) (w : World) (hn : n = xs.length) (hx : SlP w p xs) (hnm : n ≤ 3000) (hl : ∀ i, i < n → (gp xs i).2.2.2.length ≤ 3000) (hnil : ∀ i, i < n → (gp xs i).2.1 = none → (gp xs i).2.2.1 = 0) :
    Calls Tryz.prog 43 #[.slice p n c] w (LentPsPost n xs w) := by
  obtain ⟨i0, hinf, hz0, hz1, hz2⟩ := info_parts info_prop
  have HX := Lib.hid hx
  have HL := Lib.hid hl
  have HNIL := Lib.hid hnil
  have hnI : (n : Int) ≤ 3000 := by omega
  have HN := Lib.hid hn
  clear hx hl hn hnil
  go_enter Tryz.func43, Tryz.ntmps43
  go_wp2_with (at_make; refine wpList_make_own _ rfl _ _ 28 rfl w.heap.size 37 i0 (.agg #[.string ⟨#[]⟩, .slice none 0 0]) 2 Tryz.underlying28 hinf hz0 hz1 .i64 .i64 _ (n + 12) rfl rfl ?m1 ?m3 ?m4 ?m5 ?_)
  case m1 => push_cast; rfl
  case m3 => rw [hz2]; omega
  case m4 => simp only [maxLen]; omega
  case m5 => exact Nat.le_refl _
  intro w2 hown2 hgrow2
  have hb2 : Below w.heap.size w w2 := (Below.refl _ _).grown hgrow2 (Nat.le_refl _) (by simp)
  have HO2 := Lib.hid (show OwnP w2 w.heap.size (.slice (some ⟨w.heap.size, 0, none⟩) 0 (n + 12)) [] from hown2)
  have HB2 := Lib.hid hb2
  clear hown2 hgrow2 hb2
  go_wp2
  go_loopw [3, 4] (fun ov iv wr => ∃ (k : Nat) (q : Option Addr) (d : Nat) (ys : List PV), k ≤ n ∧ ov = .slice q k d ∧ iv = .int .i64 (k : Nat) ∧ Hid (k = ys.length) ∧ Hid (OwnP wr w.heap.size (.slice q k d) ys) ∧ Hid (∀ i, i < k → LentP wr w.heap.size (gp xs i) (gp ys i)) ∧ Hid (Below w.heap.size w wr)) (fun _ iv _ => n - (intOf iv).toNat)
  case atStart => exact ⟨0, _, _, [], Nat.zero_le _, rfl, rfl, rfl, HO2.out, fun i hi => by omega, HB2.out⟩
  case round =>
    obtain ⟨k, q, d, ys, hk, rfl, rfl, HK, HO, HLT, HB⟩ := hrel
    rename World => wr
    by_cases hkn : k < n
    · have hkx : k < xs.length := by have := HN.out; omega
      obtain ⟨bp, op, rfl, hcn, hcs⟩ := slp_at (HX.out.below HB.out) hkx
      have hkI : (k : Int) < n := by omega
      have hA : SlR wr (gp xs k).2.1 (gp xs k).2.2.2 := by
        have h := HX.out.1 (gp xs k) (by rw [gp_get hkx]; exact List.getElem_mem hkx)
        exact h.below HB.out
      obtain ⟨m, hm⟩ : ∃ m, m = (gp xs k).2.2.2.length := ⟨_, rfl⟩
      have HLEN := Lib.hid (lentProp_any (gp xs k).1 (gp xs k).2.1 (gp xs k).2.2.1 m (gp xs k).2.2.2 wr hm hA (HL.out k hkn) (HNIL.out k hkn))
      rw [← hm] at hcs
      obtain ⟨x, hxe⟩ : ∃ x, x = gp xs k := ⟨_, rfl⟩
      rw [← hxe] at hcn hcs HLEN hm
      have HXE := Lib.hid hxe
      have HM := Lib.hid hm
      have HKN := Lib.hid hkn
      have HWS := Lib.hid HB.out.size
      clear hm hkx hA hkn hxe
      go_wp2_with fail
      refine HLEN.out.mono ?_
      rintro e w6 ⟨g6, c6, rfl, h61, h62, ho6, hb6⟩
      have hb6a := bl_alloc w6 (.cells #[.string x.1, .slice (some ⟨g6, 0, none⟩) m c6] 37)
      have HR6 := Lib.hid (ownP_below (ownP_below HO.out hb6) hb6a)
      have HC6 := Lib.hid (And.intro h61 h62)
      have HO6 := Lib.hid (ownR_below (ownR_mono ho6 HWS.out) hb6a)
      have HLT6 := Lib.hid (fun i hi => ((HLT.out i hi).below hb6).below hb6a)
      have HB6 := Lib.hid (HB.out.trans ((bl_trans hb6 hb6a).mono HWS.out))
      clear hb6 hb6a h61 h62 ho6 HLEN
      go_wp2_with (at_builtin; refine wpList_append_own _ rfl _ _ 28 rfl w.heap.size 37 i0 (.agg #[.string ⟨#[]⟩, .slice none 0 0]) 2 40 Tryz.underlying28 hinf hz0 hz1 hz2 rfl (by decide) (.slice q k d) k _ rfl (by have h := HR6.out; unfold OwnP at h; rw [← HK.out] at h; exact h.alloc _) ⟨_, 0, none⟩ 1 1 [.string x.1, .slice (some ⟨g6, 0, none⟩) m c6] rfl rfl ?k1 ?k2 ?k3 ?k4 ?k5 ?_)
      case k1 =>
        have h := cells_two_new (w6.alloc (.cells #[.string x.1, .slice (some ⟨g6, 0, none⟩) m c6] 37)) (.string x.1) (.slice (some ⟨g6, 0, none⟩) m c6) 37
        rw [World.size_alloc] at h
        exact h
      case k2 => simp [Value.oneCell']
      case k3 => simp only [maxLen]; omega
      case k4 => omega
      case k5 => have := HB6.out.size; simp at this ⊢; omega
      intro v5 w5 hown5 hgrow5 _
      have hO5 : OwnP w5 w.heap.size v5 (ys ++ [((x.1, some ⟨g6, 0, none⟩, c6, x.2.2.2) : PV)]) := ownP_appended HK.out HM.out hown5
      obtain ⟨q5, d5, rfl⟩ := ownP_form hO5
      obtain ⟨wa, hwa⟩ : ∃ wa, wa = w6.alloc (.cells #[.string x.1, .slice (some ⟨g6, 0, none⟩) m c6] 37) := ⟨_, rfl⟩
      rw [← hwa] at HR6 HO6 HLT6 HB6 hgrow5
      have hb5 : Below w.heap.size w w5 := (HB6.out.alloc HB6.out.size _).grown hgrow5 (by have := HB6.out.size; simp; omega) (fun k hk => (HR6.out.lt k hk).1)
      have hLT5 : ∀ i, i < k + 1 → LentP w5 w.heap.size (gp xs i) (gp (ys ++ [((x.1, some ⟨g6, 0, none⟩, c6, x.2.2.2) : PV)]) i) := by
        intro i hi
        have hkl := HK.out
        refine LentP.beside (w := wa.alloc (.cells #[.string x.1, .slice (some ⟨g6, 0, none⟩) m c6] 37)) ?_ (ownP_below HR6.out (bl_alloc _ _)) hgrow5
        refine LentP.below ?_ (bl_alloc _ _)
        by_cases hik : i < k
        · rw [gp_snoc_lt (by omega)]
          exact HLT6.out i hik
        · have : i = ys.length := by omega
          subst this
          rw [gp_snoc_eq, ← HK.out, ← HXE.out]
          refine ⟨rfl, rfl, g6, rfl, ?_, HC6.out.2, ?_⟩
          · show x.2.2.2.length + 12 ≤ c6
            rw [← HM.out]; exact HC6.out.1
          · show OwnR wa w.heap.size (.slice (some ⟨g6, 0, none⟩) (x.2.2.2.length + 12) c6) (x.2.2.2 ++ marksR 12)
            rw [← HM.out]; exact HO6.out
      have HK5 : Hid (k + 1 = (ys ++ [((x.1, some ⟨g6, 0, none⟩, c6, x.2.2.2) : PV)]).length) := by show _ = _; rw [List.length_append, ← HK.out]; rfl
      rw [← HK5.out] at hO5
      rw [← HK5.out]
      have HO5 := Lib.hid hO5
      have HLT5 := Lib.hid hLT5
      have HB5 := Lib.hid hb5
      clear hown5 hgrow5 hb5 hLT5 hwa hO5
      go_wp2
      go_roundw
      case rel => exact ⟨k + 1, q5, d5, _, by have := HKN.out; omega, rfl, by go_num, HK5.out, HO5.out, HLT5.out, HB5.out⟩
      case measure => have := HKN.out; simp [intOf]; omega
    · have hkI : (n : Int) ≤ k := by omega
      obtain rfl : k = n := by omega
      have HKI := Lib.hid hkI
      clear hkn hkI
      go_wp2
      go_loopw [3, 6] (fun ov jv wi => ∃ (j no : Nat) (q : Option Addr) (d : Nat), j ≤ 12 ∧ no = k + j ∧ ov = .slice q no d ∧ jv = .int .i64 (j : Nat) ∧ Hid (OwnP wi w.heap.size (.slice q no d) (ys ++ marksP j)) ∧ Hid (∀ i, i < k → LentP wi w.heap.size (gp xs i) (gp ys i)) ∧ Hid (Below w.heap.size w wi)) (fun _ jv _ => 12 - (intOf jv).toNat)
      case atStart => exact ⟨0, k, q, d, by omega, rfl, rfl, rfl, (by show OwnP wr w.heap.size (.slice q k d) (ys ++ marksP 0); simpa [marksP] using HO.out), HLT.out, HB.out⟩
      case round =>
        obtain ⟨j, no, q2, d2, hj, hno, rfl, rfl, HO2, HLT2, HB2⟩ := hrel
        rename World => wi
        by_cases hj12 : j < 12
        · have hjI : (j : Int) < 12 := by omega
          have HMN := Lib.hid (markProp_any j wi (by omega))
          have HJ := Lib.hid hj12
          have HNO := Lib.hid hno
          clear hj12 hno
          go_wp2_with fail
          refine HMN.out.mono ?_
          rintro e w6 ⟨rfl, hb6⟩
          have HR6 := Lib.hid (ownP_below HO2.out hb6)
          have HLT6 := Lib.hid (fun i hi => (HLT2.out i hi).below hb6)
          have HB6 := Lib.hid (HB2.out.trans (hb6.mono HB2.out.size))
          have HLN : Hid (no = (ys ++ marksP j).length) := by show _ = _; rw [List.length_append, marksP_length, ← HK.out]; exact HNO.out
          clear hb6 HMN
          go_wp2_with (at_builtin; refine wpList_append_own _ rfl _ _ 28 rfl w.heap.size 37 i0 (.agg #[.string ⟨#[]⟩, .slice none 0 0]) 2 40 Tryz.underlying28 hinf hz0 hz1 hz2 rfl (by decide) (.slice q2 no d2) no _ rfl (by have h := HR6.out; unfold OwnP at h; rw [← HLN.out] at h; exact h.alloc _) ⟨_, 0, none⟩ 1 1 [.string (mt j), .slice none 0 0] rfl rfl ?n1 ?n2 ?n3 ?n4 ?n5 ?_)
          try case n1 => exact cells_two_new _ _ _ _
          case n2 => simp [Value.oneCell']
          case n3 => have := HNO.out; simp only [maxLen]; omega
          case n4 => have := HNO.out; omega
          case n5 => have := HB6.out.size; simp; omega
          intro v5 w5 hown5 hgrow5 _
          have hO5 : OwnP w5 w.heap.size v5 ((ys ++ marksP j) ++ [markP j]) := ownP_appended (x := markP j) HLN.out rfl (by rw [List.flatMap_append, List.append_assoc]; exact hown5)
          have hb5 : Below w.heap.size w w5 := (HB6.out.alloc HB6.out.size _).grown hgrow5 (by have := HB6.out.size; simp; omega) (fun k hk => (HR6.out.lt k hk).1)
          have hLT5 : ∀ i, i < k → LentP w5 w.heap.size (gp xs i) (gp ys i) := by
            intro i hi
            refine LentP.beside (w := w6.alloc (.cells #[.string (mt j), .slice none 0 0] 37)) ?_ (ownP_below HR6.out (bl_alloc _ _)) hgrow5
            exact LentP.below (HLT6.out i hi) (bl_alloc _ _)
          obtain ⟨q5, d5, rfl⟩ := ownP_form hO5
          rw [List.append_assoc, ← marksP_succ] at hO5 ⊢
          have HN5 : Hid (no + 1 = (ys ++ marksP (j + 1)).length) := by show _ = _; rw [List.length_append, marksP_length, ← HK.out]; have := HNO.out; omega
          rw [← HN5.out] at hO5 ⊢
          have HO5 := Lib.hid hO5
          have HLT5 := Lib.hid hLT5
          have HB5 := Lib.hid hb5
          clear hown5 hgrow5 hb5 hLT5 hO5
          go_wp2
          go_roundw
          case rel => exact ⟨j + 1, no + 1, q5, d5, by have := HJ.out; omega, by have := HNO.out; omega, rfl, by go_num, HO5.out, HLT5.out, HB5.out⟩
          case measure => have := HJ.out; simp [intOf]; omega
        · obtain rfl : j = 12 := by omega
          have HLN : Hid (no = (ys ++ marksP 12).length) := by show _ = _; rw [List.length_append, marksP_length, ← HK.out]; exact hno
          obtain ⟨g, rfl, hc1, hc2⟩ := ownP_some HO2.out (by omega) HLN.out
          have hcI : (k : Int) + 12 ≤ (d2 : Int) := by omega
          have hcJ : (d2 : Int) ≤ 9223372036854775807 := by omega
          subst hno
          have HC1 := Lib.hid hc1
          have HC2 := Lib.hid hc2
          clear hj12 hj hc1 hc2
          go_wp2
          go_ret
          exact ⟨g, d2, ys, rfl, ⟨HK.out, HC1.out, HC2.out, HO2.out, HLT2.out⟩, HB2.out⟩
end Go.Proofs.YtglgfpapackcdaaGreat


namespace Go.Proofs.YtglgfpapackcdaaGreat
open Go.RowKit Tnr

set_option maxHeartbeats 1600000 in
set_option maxRecDepth 100000 in
theorem sameProp_any (nm : ByteArray) (p q : Option Addr) (c d n : Nat) (l : List R) (w : World) (hn : n = l.length) (hp : SlR w p l) (hq : SlR w q l) (hl : l.length ≤ 3000) :
    Calls Tryz.prog 89 #[.agg #[.string nm, .slice p n c], .agg #[.string nm, .slice q n d]] w fun e w' => e = .returned (.bool true) ∧ Below w.heap.size w w' := by
  obtain ⟨w0, hw0⟩ : ∃ w0, w0 = (w.alloc (.cells #[.string nm, .slice p n c] 37)).alloc (.cells #[.string nm, .slice q n d] 37) := ⟨_, rfl⟩
  have hB0 : Below w.heap.size w w0 := by subst hw0; exact ((Below.refl _ _).alloc (Nat.le_refl _) _).alloc (by simp) _
  have hX0 : w0.heap[w.heap.size]? = some (.cells #[.string nm, .slice p n c] 37 (0, 0)) := by
    subst hw0
    rw [Below.heap_alloc _ _ _ (by simp)]; exact heap_alloc_new w _
  have hR0 : w0.heap[w.heap.size + 1]? = some (.cells #[.string nm, .slice q n d] 37 (0, 0)) := by
    have h := heap_alloc_new (w.alloc (.cells #[.string nm, .slice p n c] 37)) (.cells #[.string nm, .slice q n d] 37)
    subst hw0
    simpa using h
  obtain ⟨hc0, hc1, _, _⟩ := ptwo_cells hX0
  obtain ⟨hd0, hd1, _, _⟩ := ptwo_cells hR0
  have hsame := same_any p q c d l l w0 (hp.below hB0) (hq.below hB0) (by omega) (by omega)
  rw [show decide (l = l) = true by simp, ← hn] at hsame
  have HSAME := Lib.hid hsame
  have HB0 := Lib.hid hB0
  have HW0 := Lib.hid hw0
  clear hB0 hX0 hR0 hw0 hp hq hl hn hsame
  go_enter Tryz.func89, Tryz.ntmps89
  go_wp2_with fail
  rw [← HW0.out]
  refine HSAME.out.mono ?_
  rintro e w1 ⟨rfl, s, rfl⟩
  have HB1 := Lib.hid (HB0.out.trans ((drewN_below w0 s).mono HB0.out.size))
  go_wp2
  go_ret
  exact ⟨rfl, HB1.out⟩

set_option maxHeartbeats 1600000 in
set_option maxRecDepth 100000 in
theorem keptProp_any (nm : ByteArray) (p : Option Addr) (cp n : Nat) (l : List R) (B g cap : Nat) (w : World) (hn : n = l.length) (hp : SlR w p l) (hl : l.length ≤ 3000) (ho : OwnR w B (.slice (some ⟨g, 0, none⟩) (n + 12) cap) (l ++ marksR 12)) (hcap : n + 12 ≤ cap) (hcm : cap ≤ 9223372036854775807) :
    Calls Tryz.prog 88 #[.agg #[.string nm, .slice (some ⟨g, 0, none⟩) n cap], .agg #[.string nm, .slice p n cp]] w fun e w' => e = .returned (.bool true) ∧ Below w.heap.size w w' := by
  obtain ⟨w0, hw0⟩ : ∃ w0, w0 = (w.alloc (.cells #[.string nm, .slice (some ⟨g, 0, none⟩) n cap] 37)).alloc (.cells #[.string nm, .slice p n cp] 37) := ⟨_, rfl⟩
  have hB0 : Below w.heap.size w w0 := by subst hw0; exact ((Below.refl _ _).alloc (Nat.le_refl _) _).alloc (by simp) _
  have hX0 : w0.heap[w.heap.size]? = some (.cells #[.string nm, .slice (some ⟨g, 0, none⟩) n cap] 37 (0, 0)) := by
    subst hw0
    rw [Below.heap_alloc _ _ _ (by simp)]; exact heap_alloc_new w _
  have hR0 : w0.heap[w.heap.size + 1]? = some (.cells #[.string nm, .slice p n cp] 37 (0, 0)) := by
    have h := heap_alloc_new (w.alloc (.cells #[.string nm, .slice (some ⟨g, 0, none⟩) n cap] 37)) (.cells #[.string nm, .slice p n cp] 37)
    subst hw0
    simpa using h
  have hs0 : w0.heap.size = w.heap.size + 2 := by subst hw0; simp
  obtain ⟨hc0, hc1, _, _⟩ := ptwo_cells hX0
  obtain ⟨hd0, hd1, _, _⟩ := ptwo_cells hR0
  have hsame := sameProp_any nm (some ⟨g, 0, none⟩) p cap cp n l w0 hn (lentR_sl (ownR_below ho hB0)) (hp.below hB0) hl
  have HSAME := Lib.hid hsame
  have HK := Lib.hid (fun W (hW : Below w0.heap.size w0 W) => keptR_any p cp n l B g cap W hn ((hp.below hB0).below hW) (Nat.le_trans hl (by decide)) (ownR_below (ownR_below ho hB0) hW) hcap hcm)
  have HB0 := Lib.hid hB0
  have HW0 := Lib.hid hw0
  have HS0 := Lib.hid hs0
  have HX0 := Lib.hid hX0
  have HR0 := Lib.hid hR0
  clear hB0 hX0 hR0 hw0 hp hl hn hsame ho hcap hcm hs0
  go_enter Tryz.func88, Tryz.ntmps88
  go_wp2_with fail
  rw [← HW0.out]
  refine HSAME.out.mono ?_
  rintro e w1 ⟨rfl, hb1⟩
  have hX1 : w1.heap[w.heap.size]? = some (.cells #[.string nm, .slice (some ⟨g, 0, none⟩) n cap] 37 (0, 0)) := by rw [hb1.block _ (by rw [HS0.out]; omega)]; exact HX0.out
  have hR1 : w1.heap[w.heap.size + 1]? = some (.cells #[.string nm, .slice p n cp] 37 (0, 0)) := by rw [hb1.block _ (by rw [HS0.out]; omega)]; exact HR0.out
  obtain ⟨ha0, ha1, _, _⟩ := ptwo_cells hX1
  obtain ⟨hb0, hb2, _, _⟩ := ptwo_cells hR1
  have HK1 := Lib.hid (HK.out w1 hb1)
  have HB1 := Lib.hid (HB0.out.trans (hb1.mono HB0.out.size))
  clear hb1 hc0 hc1 hd0 hd1 HSAME HK hX1 hR1
  go_wp2_with fail
  refine HK1.out.mono ?_
  rintro e w2 ⟨rfl, hb2⟩
  have HB2 := Lib.hid (HB1.out.trans (hb2.mono HB1.out.size))
  go_wp2
  go_ret
  exact ⟨rfl, HB2.out⟩
end Go.Proofs.YtglgfpapackcdaaGreat

