/- The walk of LentNats: a row of Nats handed in, each with marks behind its end, and marks behind the row's. -/
import Derived.Test.YteiadigkbhbolaaDoorNk
import Derived.Test.YteiadigkbhbolaaDoorWh
namespace Go.Proofs.YteiadigkbhbolaaDoor
open Go.RowKit Tnd

theorem info_nat : (Tryd.prog.info? 25).map (fun i => (i.zero, i.size, i.bytes)) = some (some (.agg #[.slice none 0 0]), 1, 24) := by kernel_rfl
def gv (vs : List Value) (i : Nat) : Value := vs.getD i (.slice none 0 0)
theorem gv_lt {vs : List Value} {v : Value} {i : Nat} (h : i < vs.length) : gv (vs ++ [v]) i = gv vs i := by
  unfold gv; rw [List.getD_eq_getElem?_getD, List.getD_eq_getElem?_getD, List.getElem?_append_left h]
theorem gv_eq {vs : List Value} {v : Value} : gv (vs ++ [v]) vs.length = v := by
  unfold gv; rw [List.getD_eq_getElem?_getD, List.getElem?_append_right (Nat.le_refl _)]; simp
def LVal (w : World) (B : Nat) (l : List Nat) (v : Value) : Prop := ∃ g cap, v = .slice (some ⟨g, 0, none⟩) l.length cap ∧ LentL w B g cap l
theorem LVal.below {w w' : World} {B : Nat} {l : List Nat} {v : Value} (h : LVal w B l v) (hb : Below w.heap.size w w') : LVal w' B l v := by
  obtain ⟨g, cap, h1, h2⟩ := h
  exact ⟨g, cap, h1, h2.below hb⟩
theorem own_beside {w w' : World} {B B' no d : Nat} {q : Option Addr} {v : Value} {l : List Nat} {cs : List Value} {e : TypeId} {k : IntKind} (h : Own w B e k v l) (he : e ≠ 25) (ho : w.ownsRow B' 25 1 (.slice q no d) no cs) (hg : w.grownBy w' (Value.slice q no d).ownBlock) : Own w' B e k v l := by
  refine own_kept h hg ?_
  rcases ho.2 with ⟨e2, _⟩ | ⟨g2, cap, cur, e2, _, hh, _⟩
  · rw [e2]
    rcases hv : v.ownBlock with _ | g
    · exact .inl rfl
    · exact .inr (by simp [Value.ownBlock])
  · rw [e2]
    exact .inr (own_ne h hh (Ne.symm he))
theorem LVal.beside {w w' : World} {B B' no d : Nat} {q : Option Addr} {v : Value} {l : List Nat} {cs : List Value} (h : LVal w B l v) (ho : w.ownsRow B' 25 1 (.slice q no d) no cs) (hg : w.grownBy w' (Value.slice q no d).ownBlock) : LVal w' B l v := by
  obtain ⟨g, cap, h1, h2, h3, h4⟩ := h
  exact ⟨g, cap, h1, h2, h3, own_beside h4 (by decide) ho hg⟩
theorem MarkN.beside {w w' : World} {B B' no d i : Nat} {q : Option Addr} {v : Value} {cs : List Value} (h : MarkN w B v i) (ho : w.ownsRow B' 25 1 (.slice q no d) no cs) (hg : w.grownBy w' (Value.slice q no d).ownBlock) : MarkN w' B v i := by
  obtain ⟨g, h1, h2⟩ := h
  exact ⟨g, h1, own_beside h2 (by decide) ho hg⟩
theorem rowN_below {w w' : World} {B no : Nat} {v : Value} {cs : List Value} (h : w.ownsRow B 25 1 v no cs) (hb : Below w.heap.size w w') : w'.ownsRow B 25 1 v no cs := by
  obtain ⟨h1, h2⟩ := h
  refine ⟨h1, ?_⟩
  rcases h2 with h2 | ⟨g, cap, cur, e, hg, hh, r⟩
  · exact .inl h2
  · exact .inr ⟨g, cap, cur, e, hg, by rw [hb.block g (lt_of_block hh)]; exact hh, r⟩
theorem rowN_form {w : World} {B no : Nat} {v : Value} {cs : List Value} (h : w.ownsRow B 25 1 v no cs) : ∃ q d, v = .slice q no d := by
  rcases h.2 with ⟨rfl, hn⟩ | ⟨g, cap, cur, rfl, _⟩
  · exact ⟨none, 0, by rw [hn]⟩
  · exact ⟨_, _, rfl⟩
theorem rowN_some {w : World} {B no : Nat} {v : Value} {cs : List Value} (h : w.ownsRow B 25 1 v no cs) (hn : 0 < no) : ∃ g cap, v = .slice (some ⟨g, 0, none⟩) no cap ∧ no ≤ cap ∧ cap ≤ 9223372036854775807 := by
  rcases h.2 with ⟨rfl, h0⟩ | ⟨g, cap, cur, rfl, _, _, hnc, hcm, _⟩
  · omega
  · exact ⟨g, cap, rfl, hnc, by simpa [maxLen] using hcm⟩

/-- a row of Nats handed in. -/
def LNs (w : World) (B g cap : Nat) (L : List (List Nat)) (zs : List Value) : Prop :=
  L.length + 12 ≤ cap ∧ cap ≤ 9223372036854775807 ∧ w.ownsRow B 25 1 (.slice (some ⟨g, 0, none⟩) (L.length + 12) cap) (L.length + 12) zs ∧ (∀ i, i < L.length → LVal w B (gl L i) (gv zs i)) ∧ (∀ i, i < 12 → MarkN w B (gv zs (L.length + i)) i)

def LNPost (n : Nat) (L : List (List Nat)) (w : World) (e : Ending) (w' : World) : Prop :=
  ∃ g cap zs, e = .returned (.slice (some ⟨g, 0, none⟩) n cap) ∧ LNs w' w.heap.size g cap L zs ∧ Below w.heap.size w w'

set_option maxHeartbeats 3200000 in
set_option maxRecDepth 100000 in
theorem lentns_any (p : Option Addr) (c : Nat) (L : List (List Nat)) (w : World) (hin : NatsIn w w.heap.size p L) (hL : L.length ≤ 3000) (ht : tot L ≤ 3000) :
    Calls Tryd.prog 17 #[.slice p L.length c] w (LNPost L.length L w) := by
  obtain ⟨i0, hinf, hz0, hz1, hz2⟩ := info_parts info_nat
  have HI := Lib.hid hin
  have HT := Lib.hid ht
  obtain ⟨n, hn⟩ : ∃ n, n = L.length := ⟨_, rfl⟩
  rw [← hn]
  have HN := Lib.hid hn
  have hnI : (n : Int) ≤ 3000 := by omega
  have hnn : n ≤ 3000 := by omega
  clear hin ht hL hn
  go_enter Tryd.func17, Tryd.ntmps17
  go_wp2_with (at_make; refine wpList_make_own _ rfl _ _ 32 rfl w.heap.size 25 i0 (.agg #[.slice none 0 0]) 1 Tryd.underlying32 hinf hz0 hz1 .i64 .i64 _ (n + 12) rfl rfl ?m1 ?m3 ?m4 ?m5 ?_)
  case m1 => push_cast; rfl
  case m3 => rw [hz2]; omega
  case m4 => simp only [maxLen]; omega
  case m5 => exact Nat.le_refl _
  intro w2 hown2 hgrow2
  have hb2 : Below w.heap.size w w2 := (Below.refl _ _).grown hgrow2 (Nat.le_refl _) (by simp)
  have HO2 := Lib.hid (show w2.ownsRow w.heap.size 25 1 (.slice (some ⟨w.heap.size, 0, none⟩) 0 (n + 12)) 0 [] from hown2)
  have HB2 := Lib.hid hb2
  clear hown2 hgrow2 hb2
  go_wp2
  go_loopw [3, 4] (fun ov iv wr => ∃ (k : Nat) (q : Option Addr) (d : Nat) (zs : List Value), k ≤ n ∧ ov = .slice q k d ∧ iv = .int .i64 (k : Nat) ∧ Hid (k = zs.length) ∧ Hid (wr.ownsRow w.heap.size 25 1 (.slice q k d) k zs) ∧ Hid (∀ i, i < k → LVal wr w.heap.size (gl L i) (gv zs i)) ∧ Hid (Below w.heap.size w wr)) (fun _ iv _ => n - (intOf iv).toNat)
  case atStart => exact ⟨0, _, _, [], Nat.zero_le _, rfl, rfl, rfl, HO2, fun i hi => by omega, HB2⟩
  case round =>
    obtain ⟨k, q, d, zs, hk, rfl, rfl, HK, HO, HLT, HB⟩ := hrel
    rename World => wr
    by_cases hkn : k < n
    · have hkx : k < L.length := by have := HN.out; omega
      obtain ⟨b, off, rfl, qk, ck, hck, hok, hdk, hrk⟩ : ∃ b off, p = some ⟨b, off, none⟩ ∧ ∃ qk ck, wr.cell? ⟨b, off + k, none⟩ = some (.slice qk (gl L k).length ck) ∧ Old wr w.heap.size qk (gl L k) ∧ Digs 4294967296 (gl L k) ∧ (gl L k).length ≤ ck ∧ ck ≤ 9223372036854775807 ∧ (qk = none → ck = 0) := by
        rcases HI.out with h | ⟨b, off, h1, h2, h3⟩
        · subst h; simp at hkx
        · obtain ⟨qk, ck, h4, h5, h6⟩ := h3 k hkx
          exact ⟨b, off, h1, qk, ck, by rw [HB.out.cell (by simpa using h2)]; exact h4, h5.below HB.out, h6⟩
      have htk := tot_step hkx
      have htk2 := tot_take L (k + 1)
      have hkI : (k : Int) < n := by omega
      have HLEN := Lib.hid (lentn_any qk ck (gl L k) wr hok.sl (by have := HT.out; omega) hrk.2.2)
      have HWS := Lib.hid HB.out.size
      have HKN := Lib.hid hkn
      obtain ⟨y, hy⟩ : ∃ y, y = gl L k := ⟨_, rfl⟩
      rw [← hy] at hck HLEN
      have HY := Lib.hid hy
      clear hok hdk hrk htk htk2 hkx hkn hy
      go_wp2_with fail
      refine HLEN.out.mono ?_
      rintro e w6 ⟨g6, c6, rfl, hl6, hb6⟩
      have hb6a := bl_alloc w6 (.cells #[.slice (some ⟨g6, 0, none⟩) y.length c6] 25)
      have HR6 := Lib.hid (rowN_below (rowN_below HO.out hb6) hb6a)
      have HL6 := Lib.hid ((hl6.down HWS.out).below hb6a)
      have HLT6 := Lib.hid (fun i hi => ((HLT.out i hi).below hb6).below hb6a)
      have HB6 := Lib.hid (HB.out.trans ((bl_trans hb6 hb6a).mono HWS.out))
      clear hl6 hb6 hb6a hck HLEN
      go_wp2_with (at_builtin; refine wpList_append_own _ rfl _ _ 32 rfl w.heap.size 25 i0 (.agg #[.slice none 0 0]) 1 24 Tryd.underlying32 hinf hz0 hz1 hz2 rfl (by decide) (.slice q k d) k _ rfl (HR6.out.alloc _) ⟨_, 0, none⟩ 1 1 [.slice (some ⟨g6, 0, none⟩) y.length c6] rfl rfl ?k1 ?k2 ?k3 ?k4 ?k5 ?_)
      case k1 =>
        have h := cell_one_new (w6.alloc (.cells #[.slice (some ⟨g6, 0, none⟩) y.length c6] 25)) (.slice (some ⟨g6, 0, none⟩) y.length c6) 25
        rw [World.size_alloc] at h
        exact h
      case k2 => simp [Value.oneCell']
      case k3 => simp only [maxLen]; omega
      case k4 => omega
      case k5 => have := HB6.out.size; simp at this ⊢; omega
      intro v5 w5 hown5 hgrow5 _
      obtain ⟨q5, d5, rfl⟩ := rowN_form hown5
      obtain ⟨wa, hwa⟩ : ∃ wa, wa = w6.alloc (.cells #[.slice (some ⟨g6, 0, none⟩) y.length c6] 25) := ⟨_, rfl⟩
      rw [← hwa] at HR6 HL6 HLT6 HB6 hgrow5
      have hb5 : Below w.heap.size w w5 := (HB6.out.alloc HB6.out.size _).grown hgrow5 (by have := HB6.out.size; simp; omega) (fun k hk => (HR6.out.lt k hk).1)
      have hLT5 : ∀ i, i < k + 1 → LVal w5 w.heap.size (gl L i) (gv (zs ++ [.slice (some ⟨g6, 0, none⟩) y.length c6]) i) := by
        intro i hi
        have hkl := HK.out
        refine LVal.beside (w := wa.alloc (.cells #[.slice (some ⟨g6, 0, none⟩) y.length c6] 25)) ?_ (HR6.out.alloc _) hgrow5
        refine LVal.below ?_ (bl_alloc _ _)
        by_cases hik : i < k
        · rw [gv_lt (by omega)]
          exact HLT6.out i hik
        · have : i = zs.length := by omega
          subst this
          rw [gv_eq, ← HK.out, ← HY.out]
          exact ⟨g6, c6, rfl, HL6.out⟩
      have HO5 := Lib.hid (show w5.ownsRow w.heap.size 25 1 (.slice q5 (k + 1) d5) (k + 1) (zs ++ [.slice (some ⟨g6, 0, none⟩) y.length c6]) from hown5)
      have HLT5 := Lib.hid hLT5
      have HB5 := Lib.hid hb5
      have HK5 : Hid (k + 1 = (zs ++ [Value.slice (some ⟨g6, 0, none⟩) y.length c6]).length) := by show _ = _; rw [List.length_append, ← HK.out]; rfl
      clear hown5 hgrow5 hb5 hLT5 hwa
      go_wp2
      go_roundw
      case rel => exact ⟨k + 1, q5, d5, _, by have := HKN.out; omega, rfl, by go_num, HK5.out, HO5.out, HLT5.out, HB5.out⟩
      case measure => have := HKN.out; simp [intOf]; omega
    · have hkI : (n : Int) ≤ k := by omega
      obtain rfl : k = n := by omega
      have HKI := Lib.hid hkI
      clear hkn hkI
      go_wp2
      go_loopw [3, 6] (fun ov jv wi => ∃ (j : Nat) (q : Option Addr) (d : Nat) (zs : List Value), j ≤ 12 ∧ ov = .slice q (k + j) d ∧ jv = .int .i64 (j : Nat) ∧ Hid (k + j = zs.length) ∧ Hid (wi.ownsRow w.heap.size 25 1 (.slice q (k + j) d) (k + j) zs) ∧ Hid (∀ i, i < k → LVal wi w.heap.size (gl L i) (gv zs i)) ∧ Hid (∀ i, i < j → MarkN wi w.heap.size (gv zs (k + i)) i) ∧ Hid (Below w.heap.size w wi)) (fun _ jv _ => 12 - (intOf jv).toNat)
      case atStart => exact ⟨0, q, d, zs, by omega, rfl, rfl, HK, HO, HLT, fun i hi => by omega, HB⟩
      case round =>
        obtain ⟨j, q2, d2, ys, hj, rfl, rfl, HK2, HO2, HLT2, HMK2, HB2⟩ := hrel
        rename World => wi
        by_cases hj12 : j < 12
        · have hjI : (j : Int) < 12 := by omega
          have HMN := Lib.hid (markn_any j (j : Nat) rfl wi (by omega))
          have HJ := Lib.hid hj12
          clear hj12
          go_wp2_with fail
          refine HMN.out.mono ?_
          rintro e w6 ⟨v6, rfl, hm6, hb6⟩
          have HM6 := Lib.hid (hm6.down HB2.out.size)
          have HR6 := Lib.hid (rowN_below HO2.out hb6)
          have HLT6 := Lib.hid (fun i hi => (HLT2.out i hi).below hb6)
          have HMK6 := Lib.hid (fun i hi => (HMK2.out i hi).below hb6)
          have HB6 := Lib.hid (HB2.out.trans (hb6.mono HB2.out.size))
          clear hm6 hb6 HMN
          go_wp2_with (at_builtin; refine wpList_append_own _ rfl _ _ 32 rfl w.heap.size 25 i0 (.agg #[.slice none 0 0]) 1 24 Tryd.underlying32 hinf hz0 hz1 hz2 rfl (by decide) (.slice q2 (k + j) d2) (k + j) _ rfl (HR6.out.alloc _) ⟨_, 0, none⟩ 1 1 [v6] rfl rfl ?n1 ?n2 ?n3 ?n4 ?n5 ?_)
          try case n1 => exact cell_one_new _ _ _
          case n2 => obtain ⟨gm, rfl, _⟩ := HM6.out; simp [Value.oneCell']
          case n3 => simp only [maxLen]; omega
          case n4 => omega
          case n5 => have := HB6.out.size; simp; omega
          intro v5 w5 hown5 hgrow5 _
          obtain ⟨q5, d5, rfl⟩ := rowN_form hown5
          have hb5 : Below w.heap.size w w5 := (HB6.out.alloc HB6.out.size _).grown hgrow5 (by have := HB6.out.size; simp; omega) (fun k hk => (HR6.out.lt k hk).1)
          have hLT5 : ∀ i, i < k → LVal w5 w.heap.size (gl L i) (gv (ys ++ [v6]) i) := by
            intro i hi
            have hkl := HK2.out
            refine LVal.beside (w := w6.alloc (.cells #[v6] 25)) ?_ (HR6.out.alloc _) hgrow5
            refine LVal.below ?_ (bl_alloc _ _)
            rw [gv_lt (by omega)]
            exact HLT6.out i hi
          have hMK5 : ∀ i, i < j + 1 → MarkN w5 w.heap.size (gv (ys ++ [v6]) (k + i)) i := by
            intro i hi
            have hkl := HK2.out
            refine MarkN.beside (w := w6.alloc (.cells #[v6] 25)) ?_ (HR6.out.alloc _) hgrow5
            refine MarkN.below ?_ (bl_alloc _ _)
            by_cases hik : i < j
            · rw [gv_lt (by omega)]
              exact HMK6.out i hik
            · have e : i = j := by omega
              subst e
              rw [hkl, gv_eq]; exact HM6.out
          have HO5 := Lib.hid (show w5.ownsRow w.heap.size 25 1 (.slice q5 (k + (j + 1)) d5) (k + (j + 1)) (ys ++ [v6]) from hown5)
          have HLT5 := Lib.hid hLT5
          have HMK5 := Lib.hid hMK5
          have HB5 := Lib.hid hb5
          have HK5 : Hid (k + (j + 1) = (ys ++ [v6]).length) := by show _ = _; rw [List.length_append, ← HK2.out]; rfl
          clear hown5 hgrow5 hb5 hLT5 hMK5
          go_wp2
          go_roundw
          case rel => exact ⟨j + 1, q5, d5, _, by have := HJ.out; omega, rfl, by go_num, HK5.out, HO5.out, HLT5.out, HMK5.out, HB5.out⟩
          case measure => have := HJ.out; simp [intOf]; omega
        · obtain rfl : j = 12 := by omega
          obtain ⟨g, cap, e, hc1, hc2⟩ := rowN_some HO2.out (by omega)
          simp only [Value.slice.injEq, true_and] at e
          obtain ⟨rfl, rfl⟩ := e
          have hcI : (k : Int) + 12 ≤ (d2 : Int) := by omega
          have hcJ : (d2 : Int) ≤ 9223372036854775807 := by omega
          have HC1 := Lib.hid hc1
          have HC2 := Lib.hid hc2
          clear hj12 hj hc1 hc2
          go_wp2
          go_ret
          have hN := HN.out
          refine ⟨g, d2, ys, rfl, ⟨by rw [← hN]; exact HC1.out, HC2.out, by rw [← hN]; exact HO2.out, by rw [← hN]; exact HLT2.out, by rw [← hN]; exact HMK2.out⟩, HB2.out⟩
end Go.Proofs.YteiadigkbhbolaaDoor
