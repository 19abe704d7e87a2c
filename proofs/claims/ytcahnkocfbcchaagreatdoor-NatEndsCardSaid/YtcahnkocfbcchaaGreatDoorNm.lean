/- The walk of LentNats: a row of Nats handed in, each with marks behind its end, and marks behind the row's. -/
/- The walk of KeptNats. -/
import Derived.Test.YtcahnkocfbcchaaGreatDoorNk
import Derived.Test.YtcahnkocfbcchaaGreatDoorWi

namespace Go.Proofs.YtcahnkocfbcchaaGreatDoor
open Go.RowKit Tnd

theorem info_nat : (Tryz.prog.info? 24).map (fun i => (i.zero, i.size, i.bytes)) = some (some (.agg #[.slice none 0 0]), 1, 24) := by kernel_rfl
def gv (vs : List Value) (i : Nat) : Value := vs.getD i (.slice none 0 0)
theorem gv_lt {vs : List Value} {v : Value} {i : Nat} (h : i < vs.length) : gv (vs ++ [v]) i = gv vs i := by
  unfold gv; rw [List.getD_eq_getElem?_getD, List.getD_eq_getElem?_getD, List.getElem?_append_left h]
theorem gv_eq {vs : List Value} {v : Value} : gv (vs ++ [v]) vs.length = v := by
  unfold gv; rw [List.getD_eq_getElem?_getD, List.getElem?_append_right (Nat.le_refl _)]; simp
def LVal (w : World) (B : Nat) (l : List Nat) (v : Value) : Prop := ∃ g cap, v = .slice (some ⟨g, 0, none⟩) l.length cap ∧ LentL w B g cap l
theorem LVal.below {w w' : World} {B : Nat} {l : List Nat} {v : Value} (h : LVal w B l v) (hb : Below w.heap.size w w') : LVal w' B l v := by
  obtain ⟨g, cap, h1, h2⟩ := h
  exact ⟨g, cap, h1, h2.below hb⟩
theorem own_beside {w w' : World} {B B' no d : Nat} {q : Option Addr} {v : Value} {l : List Nat} {cs : List Value} {e : TypeId} {k : IntKind} (h : Own w B e k v l) (he : e ≠ 24) (ho : w.ownsRow B' 24 1 (.slice q no d) no cs) (hg : w.grownBy w' (Value.slice q no d).ownBlock) : Own w' B e k v l := by
  refine own_kept h hg ?_
  rcases ho.2 with ⟨e2, _⟩ | ⟨g2, cap, cur, e2, _, hh, _⟩
  · rw [e2]
    rcases hv : v.ownBlock with _ | g
    · exact .inl rfl
    · exact .inr (by simp [Value.ownBlock])
  · rw [e2]
    exact .inr (own_ne h hh (Ne.symm he))
theorem LVal.beside {w w' : World} {B B' no d : Nat} {q : Option Addr} {v : Value} {l : List Nat} {cs : List Value} (h : LVal w B l v) (ho : w.ownsRow B' 24 1 (.slice q no d) no cs) (hg : w.grownBy w' (Value.slice q no d).ownBlock) : LVal w' B l v := by
  obtain ⟨g, cap, h1, h2, h3, h4⟩ := h
  exact ⟨g, cap, h1, h2, h3, own_beside h4 (by decide) ho hg⟩
theorem MarkN.beside {w w' : World} {B B' no d i : Nat} {q : Option Addr} {v : Value} {cs : List Value} (h : MarkN w B v i) (ho : w.ownsRow B' 24 1 (.slice q no d) no cs) (hg : w.grownBy w' (Value.slice q no d).ownBlock) : MarkN w' B v i := by
  obtain ⟨g, h1, h2⟩ := h
  exact ⟨g, h1, own_beside h2 (by decide) ho hg⟩
theorem rowN_below {w w' : World} {B no : Nat} {v : Value} {cs : List Value} (h : w.ownsRow B 24 1 v no cs) (hb : Below w.heap.size w w') : w'.ownsRow B 24 1 v no cs := by
  obtain ⟨h1, h2⟩ := h
  refine ⟨h1, ?_⟩
  rcases h2 with h2 | ⟨g, cap, cur, e, hg, hh, r⟩
  · exact .inl h2
  · exact .inr ⟨g, cap, cur, e, hg, by rw [hb.block g (lt_of_block hh)]; exact hh, r⟩
theorem rowN_form {w : World} {B no : Nat} {v : Value} {cs : List Value} (h : w.ownsRow B 24 1 v no cs) : ∃ q d, v = .slice q no d := by
  rcases h.2 with ⟨rfl, hn⟩ | ⟨g, cap, cur, rfl, _⟩
  · exact ⟨none, 0, by rw [hn]⟩
  · exact ⟨_, _, rfl⟩
theorem rowN_some {w : World} {B no : Nat} {v : Value} {cs : List Value} (h : w.ownsRow B 24 1 v no cs) (hn : 0 < no) : ∃ g cap, v = .slice (some ⟨g, 0, none⟩) no cap ∧ no ≤ cap ∧ cap ≤ 9223372036854775807 := by
  rcases h.2 with ⟨rfl, h0⟩ | ⟨g, cap, cur, rfl, _, _, hnc, hcm, _⟩
  · omega
  · exact ⟨g, cap, rfl, hnc, by simpa [maxLen] using hcm⟩

/-- a row of Nats handed in. -/
def LNs (w : World) (B g cap : Nat) (L : List (List Nat)) (zs : List Value) : Prop :=
  L.length + 12 ≤ cap ∧ cap ≤ 9223372036854775807 ∧ w.ownsRow B 24 1 (.slice (some ⟨g, 0, none⟩) (L.length + 12) cap) (L.length + 12) zs ∧ (∀ i, i < L.length → LVal w B (gl L i) (gv zs i)) ∧ (∀ i, i < 12 → MarkN w B (gv zs (L.length + i)) i)

def LNPost (n : Nat) (L : List (List Nat)) (w : World) (e : Ending) (w' : World) : Prop :=
  ∃ g cap zs, e = .returned (.slice (some ⟨g, 0, none⟩) n cap) ∧ LNs w' w.heap.size g cap L zs ∧ Below w.heap.size w w'

set_option maxHeartbeats 3200000 in
set_option maxRecDepth 100000 in
theorem lentns_any (p : Option Addr) (c : Nat) (L : List (List Nat)) (w : World) (hin : NatsIn w w.heap.size p L) (hL : L.length ≤ 3000) (ht : tot L ≤ 3000) :
    Calls Tryz.prog 54 #[.slice p L.length c] w (LNPost L.length L w) := by
  obtain ⟨i0, hinf, hz0, hz1, hz2⟩ := info_parts info_nat
  have HI := Lib.hid hin
  have HT := Lib.hid ht
  obtain ⟨n, hn⟩ : ∃ n, n = L.length := ⟨_, rfl⟩
  rw [← hn]
  have HN := Lib.hid hn
  have hnI : (n : Int) ≤ 3000 := by omega
  have hnn : n ≤ 3000 := by omega
  clear hin ht hL hn
  go_enter Tryz.func54, Tryz.ntmps54
  go_wp2_with (at_make; refine wpList_make_own _ rfl _ _ 38 rfl w.heap.size 24 i0 (.agg #[.slice none 0 0]) 1 Tryz.underlying38 hinf hz0 hz1 .i64 .i64 _ (n + 12) rfl rfl ?m1 ?m3 ?m4 ?m5 ?_)
  case m1 => push_cast; rfl
  case m3 => rw [hz2]; omega
  case m4 => simp only [maxLen]; omega
  case m5 => exact Nat.le_refl _
  intro w2 hown2 hgrow2
  have hb2 : Below w.heap.size w w2 := (Below.refl _ _).grown hgrow2 (Nat.le_refl _) (by simp)
  have HO2 := Lib.hid (show w2.ownsRow w.heap.size 24 1 (.slice (some ⟨w.heap.size, 0, none⟩) 0 (n + 12)) 0 [] from hown2)
  have HB2 := Lib.hid hb2
  clear hown2 hgrow2 hb2
  go_wp2
  go_loopw [3, 4] (fun ov iv wr => ∃ (k : Nat) (q : Option Addr) (d : Nat) (zs : List Value), k ≤ n ∧ ov = .slice q k d ∧ iv = .int .i64 (k : Nat) ∧ Hid (k = zs.length) ∧ Hid (wr.ownsRow w.heap.size 24 1 (.slice q k d) k zs) ∧ Hid (∀ i, i < k → LVal wr w.heap.size (gl L i) (gv zs i)) ∧ Hid (Below w.heap.size w wr)) (fun _ iv _ => n - (intOf iv).toNat)
  case atStart => exact ⟨0, _, _, [], Nat.zero_le _, rfl, rfl, rfl, HO2, fun i hi => by omega, HB2⟩
  case round =>
    obtain ⟨k, q, d, zs, hk, rfl, rfl, HK, HO, HLT, HB⟩ := hrel
    rename World => wr
    by_cases hkn : k < n
    · have hkx : k < L.length := by have := HN.out; omega
      obtain ⟨b, off, rfl, qk, ck, hck, hok, hdk, hrk⟩ : ∃ b off, p = some ⟨b, off, none⟩ ∧ ∃ qk ck, wr.cell? ⟨b, off + k, none⟩ = some (.slice qk (gl L k).length ck) ∧ Old wr w.heap.size qk (gl L k) ∧ Digs 4294967296 (gl L k) ∧ (gl L k).length ≤ ck ∧ ck ≤ 9223372036854775807 ∧ (qk = none → ck = 0) := by
        rcases HI.out with h | ⟨b, off, h1, h2, h3⟩
        · subst h; simp at hkx
        · obtain ⟨qk, ck, h4, h5, h6⟩ := h3 k hkx
          exact ⟨b, off, h1, qk, ck, by rw [HB.out.cell (by simpa using h2)]; exact h4, h5.below HB.out, h6⟩
      have htk := tot_step hkx
      have htk2 := tot_take L (k + 1)
      have hkI : (k : Int) < n := by omega
      have HLEN := Lib.hid (lentn_any qk ck (gl L k) wr hok.sl (by have := HT.out; omega) hrk.2.2)
      have HWS := Lib.hid HB.out.size
      have HKN := Lib.hid hkn
      obtain ⟨y, hy⟩ : ∃ y, y = gl L k := ⟨_, rfl⟩
      rw [← hy] at hck HLEN
      have HY := Lib.hid hy
      clear hok hdk hrk htk htk2 hkx hkn hy
      go_wp2_with fail
      refine HLEN.out.mono ?_
      rintro e w6 ⟨g6, c6, rfl, hl6, hb6⟩
      have hb6a := bl_alloc w6 (.cells #[.slice (some ⟨g6, 0, none⟩) y.length c6] 24)
      have HR6 := Lib.hid (rowN_below (rowN_below HO.out hb6) hb6a)
      have HL6 := Lib.hid ((hl6.down HWS.out).below hb6a)
      have HLT6 := Lib.hid (fun i hi => ((HLT.out i hi).below hb6).below hb6a)
      have HB6 := Lib.hid (HB.out.trans ((bl_trans hb6 hb6a).mono HWS.out))
      clear hl6 hb6 hb6a hck HLEN
      go_wp2_with (at_builtin; refine wpList_append_own _ rfl _ _ 38 rfl w.heap.size 24 i0 (.agg #[.slice none 0 0]) 1 24 Tryz.underlying38 hinf hz0 hz1 hz2 rfl (by decide) (.slice q k d) k _ rfl (HR6.out.alloc _) ⟨_, 0, none⟩ 1 1 [.slice (some ⟨g6, 0, none⟩) y.length c6] rfl rfl ?k1 ?k2 ?k3 ?k4 ?k5 ?_)
      case k1 =>
        have h := cell_one_new (w6.alloc (.cells #[.slice (some ⟨g6, 0, none⟩) y.length c6] 24)) (.slice (some ⟨g6, 0, none⟩) y.length c6) 24
        rw [World.size_alloc] at h
        exact h
      case k2 => simp [Value.oneCell']
      case k3 => simp only [maxLen]; omega
      case k4 => omega
      case k5 => have := HB6.out.size; simp at this ⊢; omega
      intro v5 w5 hown5 hgrow5 _
      obtain ⟨q5, d5, rfl⟩ := rowN_form hown5
      obtain ⟨wa, hwa⟩ : ∃ wa, wa = w6.alloc (.cells #[.slice (some ⟨g6, 0, none⟩) y.length c6] 24) := ⟨_, rfl⟩
      rw [← hwa] at HR6 HL6 HLT6 HB6 hgrow5
      have hb5 : Below w.heap.size w w5 := (HB6.out.alloc HB6.out.size _).grown hgrow5 (by have := HB6.out.size; simp; omega) (fun k hk => (HR6.out.lt k hk).1)
      have hLT5 : ∀ i, i < k + 1 → LVal w5 w.heap.size (gl L i) (gv (zs ++ [.slice (some ⟨g6, 0, none⟩) y.length c6]) i) := by
        intro i hi
        have hkl := HK.out
        refine LVal.beside (w := wa.alloc (.cells #[.slice (some ⟨g6, 0, none⟩) y.length c6] 24)) ?_ (HR6.out.alloc _) hgrow5
        refine LVal.below ?_ (bl_alloc _ _)
        by_cases hik : i < k
        · rw [gv_lt (by omega)]
          exact HLT6.out i hik
        · have : i = zs.length := by omega
          subst this
          rw [gv_eq, ← HK.out, ← HY.out]
          exact ⟨g6, c6, rfl, HL6.out⟩
      have HO5 := Lib.hid (show w5.ownsRow w.heap.size 24 1 (.slice q5 (k + 1) d5) (k + 1) (zs ++ [.slice (some ⟨g6, 0, none⟩) y.length c6]) from hown5)
      have HLT5 := Lib.hid hLT5
      have HB5 := Lib.hid hb5
      have HK5 : Hid (k + 1 = (zs ++ [Value.slice (some ⟨g6, 0, none⟩) y.length c6]).length) := by show _ = _; rw [List.length_append, ← HK.out]; rfl
      clear hown5 hgrow5 hb5 hLT5 hwa
      go_wp2
      go_roundw
      case rel => exact ⟨k + 1, q5, d5, _, by have := HKN.out; omega, rfl, by go_num, HK5.out, HO5.out, HLT5.out, HB5.out⟩
      case measure => have := HKN.out; simp [intOf]; omega
    · have hkI : (n : Int) ≤ k := by omega
      obtain rfl : k = n := by omega
      have HKI := Lib.hid hkI
      clear hkn hkI
      go_wp2
      go_loopw [3, 6] (fun ov jv wi => ∃ (j : Nat) (q : Option Addr) (d : Nat) (zs : List Value), j ≤ 12 ∧ ov = .slice q (k + j) d ∧ jv = .int .i64 (j : Nat) ∧ Hid (k + j = zs.length) ∧ Hid (wi.ownsRow w.heap.size 24 1 (.slice q (k + j) d) (k + j) zs) ∧ Hid (∀ i, i < k → LVal wi w.heap.size (gl L i) (gv zs i)) ∧ Hid (∀ i, i < j → MarkN wi w.heap.size (gv zs (k + i)) i) ∧ Hid (Below w.heap.size w wi)) (fun _ jv _ => 12 - (intOf jv).toNat)
      case atStart => exact ⟨0, q, d, zs, by omega, rfl, rfl, HK, HO, HLT, fun i hi => by omega, HB⟩
      case round =>
        obtain ⟨j, q2, d2, ys, hj, rfl, rfl, HK2, HO2, HLT2, HMK2, HB2⟩ := hrel
        rename World => wi
        by_cases hj12 : j < 12
        · have hjI : (j : Int) < 12 := by omega
          have HMN := Lib.hid (markn_any j (j : Nat) rfl wi (by omega))
          have HJ := Lib.hid hj12
          clear hj12
          go_wp2_with fail
          refine HMN.out.mono ?_
          rintro e w6 ⟨v6, rfl, hm6, hb6⟩
          have HM6 := Lib.hid (hm6.down HB2.out.size)
          have HR6 := Lib.hid (rowN_below HO2.out hb6)
          have HLT6 := Lib.hid (fun i hi => (HLT2.out i hi).below hb6)
          have HMK6 := Lib.hid (fun i hi => (HMK2.out i hi).below hb6)
          have HB6 := Lib.hid (HB2.out.trans (hb6.mono HB2.out.size))
          clear hm6 hb6 HMN
          go_wp2_with (at_builtin; refine wpList_append_own _ rfl _ _ 38 rfl w.heap.size 24 i0 (.agg #[.slice none 0 0]) 1 24 Tryz.underlying38 hinf hz0 hz1 hz2 rfl (by decide) (.slice q2 (k + j) d2) (k + j) _ rfl (HR6.out.alloc _) ⟨_, 0, none⟩ 1 1 [v6] rfl rfl ?n1 ?n2 ?n3 ?n4 ?n5 ?_)
          try case n1 => exact cell_one_new _ _ _
          case n2 => obtain ⟨gm, rfl, _⟩ := HM6.out; simp [Value.oneCell']
          case n3 => simp only [maxLen]; omega
          case n4 => omega
          case n5 => have := HB6.out.size; simp; omega
          intro v5 w5 hown5 hgrow5 _
          obtain ⟨q5, d5, rfl⟩ := rowN_form hown5
          have hb5 : Below w.heap.size w w5 := (HB6.out.alloc HB6.out.size _).grown hgrow5 (by have := HB6.out.size; simp; omega) (fun k hk => (HR6.out.lt k hk).1)
          have hLT5 : ∀ i, i < k → LVal w5 w.heap.size (gl L i) (gv (ys ++ [v6]) i) := by
            intro i hi
            have hkl := HK2.out
            refine LVal.beside (w := w6.alloc (.cells #[v6] 24)) ?_ (HR6.out.alloc _) hgrow5
            refine LVal.below ?_ (bl_alloc _ _)
            rw [gv_lt (by omega)]
            exact HLT6.out i hi
          have hMK5 : ∀ i, i < j + 1 → MarkN w5 w.heap.size (gv (ys ++ [v6]) (k + i)) i := by
            intro i hi
            have hkl := HK2.out
            refine MarkN.beside (w := w6.alloc (.cells #[v6] 24)) ?_ (HR6.out.alloc _) hgrow5
            refine MarkN.below ?_ (bl_alloc _ _)
            by_cases hik : i < j
            · rw [gv_lt (by omega)]
              exact HMK6.out i hik
            · have e : i = j := by omega
              subst e
              rw [hkl, gv_eq]; exact HM6.out
          have HO5 := Lib.hid (show w5.ownsRow w.heap.size 24 1 (.slice q5 (k + (j + 1)) d5) (k + (j + 1)) (ys ++ [v6]) from hown5)
          have HLT5 := Lib.hid hLT5
          have HMK5 := Lib.hid hMK5
          have HB5 := Lib.hid hb5
          have HK5 : Hid (k + (j + 1) = (ys ++ [v6]).length) := by show _ = _; rw [List.length_append, ← HK2.out]; rfl
          clear hown5 hgrow5 hb5 hLT5 hMK5
          go_wp2
          go_roundw
          case rel => exact ⟨j + 1, q5, d5, _, by have := HJ.out; omega, rfl, by go_num, HK5.out, HO5.out, HLT5.out, HMK5.out, HB5.out⟩
          case measure => have := HJ.out; simp [intOf]; omega
        · obtain rfl : j = 12 := by omega
          obtain ⟨g, cap, e, hc1, hc2⟩ := rowN_some HO2.out (by omega)
          simp only [Value.slice.injEq, true_and] at e
          obtain ⟨rfl, rfl⟩ := e
          have hcI : (k : Int) + 12 ≤ (d2 : Int) := by omega
          have hcJ : (d2 : Int) ≤ 9223372036854775807 := by omega
          have HC1 := Lib.hid hc1
          have HC2 := Lib.hid hc2
          clear hj12 hj hc1 hc2
          go_wp2
          go_ret
          have hN := HN.out
          refine ⟨g, d2, ys, rfl, ⟨by rw [← hN]; exact HC1.out, HC2.out, by rw [← hN]; exact HO2.out, by rw [← hN]; exact HLT2.out, by rw [← hN]; exact HMK2.out⟩, HB2.out⟩
end Go.Proofs.YtcahnkocfbcchaaGreatDoor


namespace Go.Proofs.YtcahnkocfbcchaaGreatDoor
open Go.RowKit Tnd

theorem keep_cell {W w6 : World} {a : Addr} {v : Value} (hb : Below W.heap.size W w6) (h : W.cell? a = some v) : w6.cell? a = some v := by rw [hb.cell (World.block_lt_of_cell? W _ h)]; exact h
theorem keep_below {w W w6 : World} (hb : Below W.heap.size W w6) (h : Hid (Below w.heap.size w W)) : Hid (Below w.heap.size w w6) := bl_trans h.out hb
theorem rowN_cell {w : World} {B g no cap : Nat} {zs : List Value} (h : w.ownsRow B 24 1 (.slice (some ⟨g, 0, none⟩) no cap) no zs) (i : Nat) (hi : i < no) : w.cell? ⟨g, i, none⟩ = some (gv zs i) := by
  have hl : zs.length = no := by have := h.1; omega
  rw [h.cellAt i (by omega)]
  unfold gv
  rw [List.getD_eq_getElem?_getD, List.getElem?_eq_getElem (by omega)]; rfl

theorem own_form1 {w : World} {B g : Nat} {l : List Nat} {n c : Nat} (h : Own w B 46 .u32 (.slice (some ⟨g, 0, none⟩) n c) l) : Sl w .u32 (some ⟨g, 0, none⟩) l := by
  obtain ⟨p, c', e, _, _, _, hs, _⟩ := own_form h
  simp only [Value.slice.injEq] at e
  rw [e.1]; exact hs

set_option maxHeartbeats 6400000 in
set_option maxRecDepth 100000 in
theorem keptns_any (p : Option Addr) (cp n B g cap : Nat) (L : List (List Nat)) (zs : List Value) (w : World) (hn : n = L.length) (hin : NatsIn w w.heap.size p L) (hL : L.length ≤ 3000) (ht : tot L ≤ 3000) (ho : LNs w B g cap L zs) :
    Calls Tryz.prog 57 #[.slice (some ⟨g, 0, none⟩) n cap, .slice p n cp] w fun e w' => e = .returned (.bool true) ∧ Below w.heap.size w w' := by
  obtain ⟨hc1, hc2, hrow, hlv, hmk⟩ := ho
  rw [← hn] at hc1 hrow hlv hmk
  have hnI : (n : Int) ≤ 3000 := by omega
  have hcI : (n : Int) + 12 ≤ (cap : Int) := by omega
  have hcJ : (cap : Int) ≤ 9223372036854775807 := by omega
  have HN := Lib.hid hn
  have HI := Lib.hid hin
  have HT := Lib.hid ht
  have HROW := Lib.hid hrow
  have HLV := Lib.hid hlv
  have HMK := Lib.hid hmk
  clear hn hin hL ht hc1 hc2 hrow hlv hmk
  go_enter Tryz.func57, Tryz.ntmps57
  go_wp2
  go_loopw [6] (fun iv wr => ∃ (k : Nat), k ≤ n + 12 ∧ iv = .int .i64 (k : Nat) ∧ Hid (Below w.heap.size w wr)) (fun iv _ => n + 12 - (intOf iv).toNat)
  case atStart => exact ⟨0, Nat.zero_le _, rfl, Below.refl _ _⟩
  case round =>
    obtain ⟨k, hk, rfl, HB⟩ := hrel
    rename World => wr
    by_cases hkn : k < n
    · have hkx : k < L.length := by have := HN.out; omega
      obtain ⟨b1, o1, rfl, qk, ck, hc1, hok, hrk⟩ : ∃ b off, p = some ⟨b, off, none⟩ ∧ ∃ qk ck, wr.cell? ⟨b, off + k, none⟩ = some (.slice qk (gl L k).length ck) ∧ Old w w.heap.size qk (gl L k) ∧ (gl L k).length ≤ 3000 := by
        rcases HI.out with h | ⟨b, off, h1, h2, h3⟩
        · subst h; simp at hkx
        · obtain ⟨qk, ck, h4, h5, h6⟩ := h3 k hkx
          have htk := tot_step hkx
          have htk2 := tot_take L (k + 1)
          exact ⟨b, off, h1, qk, ck, by rw [HB.out.cell (by simpa using h2)]; exact h4, h5, by have := HT.out; omega⟩
      obtain ⟨gi, ci, hgi, hli⟩ := HLV.out k hkn
      have hc3 : wr.cell? ⟨g, k, none⟩ = some (.slice (some ⟨gi, 0, none⟩) (gl L k).length ci) := by
        have h := rowN_cell HROW.out k (by omega)
        rw [hgi] at h
        exact keep_cell HB.out h
      have HKN := Lib.hid (fun (W : World) (hW : Below w.heap.size w W) => keptn_any qk ck (gl L k) B gi ci W (hok.sl.below hW) hrk (hli.below hW))
      have hkI : (k : Int) < n := by omega
      have hkJ : (k : Int) < (n : Int) + 12 := by omega
      have hge : decide ((n : Int) ≤ k) = false := by rw [decide_eq_false_iff_not]; omega
      have hlt : decide ((k : Int) < n) = true := by rw [decide_eq_true_iff]; omega
      have hltN : decide (k < n) = true := by rw [decide_eq_true_iff]; omega
      have hgeN : decide (n ≤ k) = false := by rw [decide_eq_false_iff_not]; omega
      obtain ⟨v1, hv1⟩ : ∃ v, v = Value.slice qk (gl L k).length ck := ⟨_, rfl⟩
      obtain ⟨v3, hv3⟩ : ∃ v, v = Value.slice (some ⟨gi, 0, none⟩) (gl L k).length ci := ⟨_, rfl⟩
      rw [← hv1, ← hv3] at HKN
      rw [← hv1] at hc1
      rw [← hv3] at hc3
      clear hkn hgi hli hok hrk hkx hv1 hv3
      go_wp2
      refine wp_region_held_drew (S := (fun W => W.cell? ⟨g, k, none⟩ = some v3 ∧ W.cell? ⟨b1, o1 + k, none⟩ = some v1 ∧ Hid (Below w.heap.size w W))) (by kernel_rfl) ⟨hc3, hc1, bl_trans HB.out (bl_drew _)⟩ (fun hHeld => ?_)
      refine wpAnyH_take (i := 0) (oi := { dst := some 23, op := Op.move (Operand.tmp 6), type := 3, pos := "lent.go:289", after := #[], guard := none }) (v := ?_) rfl (by kernel_rfl) (by kernel_rfl) (by kernel_rfl) (fun _ _ _ h => h) (Or.inl ⟨by rfl, ?_⟩) (by assumption) ?_
      rotate_left
      focus (intro w hSw; (try dsimp only at hSw); go_simp; try with_reducible rfl)
      try simp only [Act.put, List.setIfInBounds_toArray, List.set_cons_zero, List.set_cons_succ]
      refine wpAnyH_take (i := 1) (oi := { dst := some 24, op := Op.move (Operand.tmp 1), type := 38, pos := "lent.go:289", after := #[], guard := none }) (v := ?_) rfl (by kernel_rfl) (by kernel_rfl) (by kernel_rfl) (fun _ _ _ h => h) (Or.inl ⟨by rfl, ?_⟩) (by assumption) ?_
      rotate_left
      focus (intro w hSw; (try dsimp only at hSw); go_simp; try with_reducible rfl)
      try simp only [Act.put, List.setIfInBounds_toArray, List.set_cons_zero, List.set_cons_succ]
      refine wpAnyH_take (i := 2) (oi := { dst := some 25, op := Op.call { callee := Callee.builtin Builtin.len, args := #[Operand.tmp 24], argTypes := #[38] }, type := 3, pos := "lent.go:289", after := #[{ on := 1, ground := Ground.data }], guard := none }) (v := ?_) rfl (by kernel_rfl) (by kernel_rfl) (by kernel_rfl) (fun _ _ _ h => h) (Or.inl ⟨by rfl, ?_⟩) (by assumption) ?_
      rotate_left
      focus (intro w hSw; (try dsimp only at hSw); go_simp; try with_reducible rfl)
      try simp only [Act.put, List.setIfInBounds_toArray, List.set_cons_zero, List.set_cons_succ]
      refine wpAnyH_take (i := 3) (oi := { dst := some 26, op := Op.binOp BinOp.lss 3 (Operand.tmp 23) (Operand.tmp 25) 3, type := 4, pos := "lent.go:289", after := #[{ on := 0, ground := Ground.data }, { on := 2, ground := Ground.data }], guard := none }) (v := ?_) rfl (by kernel_rfl) (by kernel_rfl) (by kernel_rfl) (fun _ _ _ h => h) (Or.inl ⟨by rfl, ?_⟩) (by assumption) ?_
      rotate_left
      focus (intro w hSw; (try dsimp only at hSw); go_simp; try with_reducible rfl)
      try simp only [Act.put, List.setIfInBounds_toArray, List.set_cons_zero, List.set_cons_succ]
      refine wpAnyH_take (i := 4) (oi := { dst := some 27, op := Op.move (Operand.tmp 26), type := 4, pos := "lent.go:289", after := #[{ on := 3, ground := Ground.data }], guard := none }) (v := ?_) rfl (by kernel_rfl) (by kernel_rfl) (by kernel_rfl) (fun _ _ _ h => h) (Or.inl ⟨by rfl, ?_⟩) (by assumption) ?_
      rotate_left
      focus (intro w hSw; (try dsimp only at hSw); go_simp; try with_reducible rfl)
      try simp only [Act.put, List.setIfInBounds_toArray, List.set_cons_zero, List.set_cons_succ]
      refine wpAnyH_take (i := 5) (oi := { dst := some 28, op := Op.move (Operand.tmp 5), type := 38, pos := "lent.go:289", after := #[{ on := 4, ground := Ground.guard }], guard := some (4, true) }) (v := ?_) rfl (by kernel_rfl) (by kernel_rfl) (by kernel_rfl) (fun _ _ _ h => h) (Or.inl ⟨by rfl, ?_⟩) (by assumption) ?_
      rotate_left
      focus (intro w hSw; (try dsimp only at hSw); go_simp; try with_reducible rfl)
      try simp only [Act.put, List.setIfInBounds_toArray, List.set_cons_zero, List.set_cons_succ]
      refine wpAnyH_take (i := 6) (oi := { dst := some 29, op := Op.move (Operand.tmp 6), type := 3, pos := "lent.go:289", after := #[{ on := 4, ground := Ground.guard }], guard := some (4, true) }) (v := ?_) rfl (by kernel_rfl) (by kernel_rfl) (by kernel_rfl) (fun _ _ _ h => h) (Or.inl ⟨by rfl, ?_⟩) (by assumption) ?_
      rotate_left
      focus (intro w hSw; (try dsimp only at hSw); go_simp; try with_reducible rfl)
      try simp only [Act.put, List.setIfInBounds_toArray, List.set_cons_zero, List.set_cons_succ]
      refine wpAnyH_take (i := 7) (oi := { dst := some 30, op := Op.indexAddr 38 (Operand.tmp 28) (Operand.tmp 29), type := 0, pos := "lent.go:289", after := #[{ on := 5, ground := Ground.data }, { on := 6, ground := Ground.data }, { on := 4, ground := Ground.guard }], guard := some (4, true) }) (v := ?_) rfl (by kernel_rfl) (by kernel_rfl) (by kernel_rfl) (fun _ _ _ h => h) (Or.inl ⟨by rfl, ?_⟩) (by assumption) ?_
      rotate_left
      focus (intro w hSw; (try dsimp only at hSw); go_simp; try with_reducible rfl)
      try simp only [Act.put, List.setIfInBounds_toArray, List.set_cons_zero, List.set_cons_succ]
      refine wpAnyH_take (i := 8) (oi := { dst := some 31, op := Op.load 24 (Operand.tmp 30), type := 24, pos := "lent.go:289", after := #[{ on := 7, ground := Ground.data }, { on := 4, ground := Ground.guard }], guard := some (4, true) }) (v := ?_) rfl (by kernel_rfl) (by kernel_rfl) (by kernel_rfl) (fun _ _ _ h => h) (Or.inl ⟨by rfl, ?_⟩) (by assumption) ?_
      rotate_left
      focus (intro w hSw; (try dsimp only at hSw); go_simp; try with_reducible rfl)
      try simp only [Act.put, List.setIfInBounds_toArray, List.set_cons_zero, List.set_cons_succ]
      refine wpAnyH_take (i := 9) (oi := { dst := some 32, op := Op.move (Operand.tmp 1), type := 38, pos := "lent.go:289", after := #[{ on := 4, ground := Ground.guard }], guard := some (4, true) }) (v := ?_) rfl (by kernel_rfl) (by kernel_rfl) (by kernel_rfl) (fun _ _ _ h => h) (Or.inl ⟨by rfl, ?_⟩) (by assumption) ?_
      rotate_left
      focus (intro w hSw; (try dsimp only at hSw); go_simp; try with_reducible rfl)
      try simp only [Act.put, List.setIfInBounds_toArray, List.set_cons_zero, List.set_cons_succ]
      refine wpAnyH_take (i := 10) (oi := { dst := some 33, op := Op.move (Operand.tmp 6), type := 3, pos := "lent.go:289", after := #[{ on := 4, ground := Ground.guard }], guard := some (4, true) }) (v := ?_) rfl (by kernel_rfl) (by kernel_rfl) (by kernel_rfl) (fun _ _ _ h => h) (Or.inl ⟨by rfl, ?_⟩) (by assumption) ?_
      rotate_left
      focus (intro w hSw; (try dsimp only at hSw); go_simp; try with_reducible rfl)
      try simp only [Act.put, List.setIfInBounds_toArray, List.set_cons_zero, List.set_cons_succ]
      refine wpAnyH_take (i := 11) (oi := { dst := some 34, op := Op.indexAddr 38 (Operand.tmp 32) (Operand.tmp 33), type := 0, pos := "lent.go:289", after := #[{ on := 9, ground := Ground.data }, { on := 10, ground := Ground.data }, { on := 4, ground := Ground.guard }], guard := some (4, true) }) (v := ?_) rfl (by kernel_rfl) (by kernel_rfl) (by kernel_rfl) (fun _ _ _ h => h) (Or.inl ⟨by rfl, ?_⟩) (by assumption) ?_
      rotate_left
      focus (intro w hSw; (try dsimp only at hSw); go_simp; try with_reducible rfl)
      try simp only [Act.put, List.setIfInBounds_toArray, List.set_cons_zero, List.set_cons_succ]
      refine wpAnyH_take (i := 12) (oi := { dst := some 35, op := Op.load 24 (Operand.tmp 34), type := 24, pos := "lent.go:289", after := #[{ on := 11, ground := Ground.data }, { on := 4, ground := Ground.guard }], guard := some (4, true) }) (v := ?_) rfl (by kernel_rfl) (by kernel_rfl) (by kernel_rfl) (fun _ _ _ h => h) (Or.inl ⟨by rfl, ?_⟩) (by assumption) ?_
      rotate_left
      focus (intro w hSw; (try dsimp only at hSw); go_simp; try with_reducible rfl)
      try simp only [Act.put, List.setIfInBounds_toArray, List.set_cons_zero, List.set_cons_succ]
      refine wpAnyH_ready (rs := [13]) (by kernel_rfl) (by simp) ?_
      refine AllReadyH.cons (o := { dst := some 36, op := Op.call { callee := Callee.value (Operand.func 20), args := #[Operand.tmp 31, Operand.tmp 35], argTypes := #[24, 24] }, type := 4, pos := "lent.go:289", after := #[{ on := 8, ground := Ground.data }, { on := 12, ground := Ground.data }, { on := 4, ground := Ground.chain }, { on := 4, ground := Ground.guard }], guard := some (4, true) }) rfl (fun K hK => ?_) AllReadyH.nil
      go_simp
      go_at_call 20
      refine (HKN.out _ (bl_trans HB.out (bl_drew _))).mono ?_
      rintro e w6 ⟨rfl, hb6⟩
      have hq1 : World.cell? w6 ⟨g, k, none⟩ = some v3 := keep_cell hb6 hc3
      have hq2 : World.cell? w6 ⟨b1, o1 + k, none⟩ = some v1 := keep_cell hb6 hc1
      have hq3 : Hid (Below w.heap.size w w6) := keep_below hb6 (bl_trans HB.out (bl_drew _))
      clear hb6
      try go_wp2_with fail
      refine hK.out _ _ ⟨hq1, hq2, hq3⟩ (fun hHeld2 => ?_)
      clear hK K
      try simp only [Act.put, List.setIfInBounds_toArray, List.set_cons_zero, List.set_cons_succ]
      refine wpAnyH_take (i := 14) (oi := { dst := some 37, op := Op.unOp UnOp.not 4 (Operand.tmp 36), type := 4, pos := "lent.go:289", after := #[{ on := 13, ground := Ground.data }, { on := 4, ground := Ground.guard }], guard := some (4, true) }) (v := ?_) rfl (by kernel_rfl) (by kernel_rfl) (by kernel_rfl) (fun _ _ _ h => h) (Or.inl ⟨by rfl, ?_⟩) (by assumption) ?_
      rotate_left
      focus (intro w hSw; (try dsimp only at hSw); go_simp; try with_reducible rfl)
      try simp only [Act.put, List.setIfInBounds_toArray, List.set_cons_zero, List.set_cons_succ]
      refine wpAnyH_take (i := 15) (oi := { dst := some 38, op := Op.pick (Operand.tmp 27) (Operand.tmp 37) (Operand.const (Value.bool false)), type := 4, pos := "lent.go:289", after := #[{ on := 4, ground := Ground.data }, { on := 14, ground := Ground.data }], guard := none }) (v := ?_) rfl (by kernel_rfl) (by kernel_rfl) (by kernel_rfl) (fun _ _ _ h => h) (Or.inl ⟨by rfl, ?_⟩) (by assumption) ?_
      rotate_left
      focus (intro w hSw; (try dsimp only at hSw); go_simp; try with_reducible rfl)
      try simp only [Act.put, List.setIfInBounds_toArray, List.set_cons_zero, List.set_cons_succ]
      refine wpAnyH_take (i := 16) (oi := { dst := some 39, op := Op.move (Operand.tmp 38), type := 4, pos := "lent.go:289", after := #[{ on := 15, ground := Ground.data }, { on := 13, ground := Ground.chain }], guard := none }) (v := ?_) rfl (by kernel_rfl) (by kernel_rfl) (by kernel_rfl) (fun _ _ _ h => h) (Or.inl ⟨by rfl, ?_⟩) (by assumption) ?_
      rotate_left
      focus (intro w hSw; (try dsimp only at hSw); go_simp; try with_reducible rfl)
      try simp only [Act.put, List.setIfInBounds_toArray, List.set_cons_zero, List.set_cons_succ]
      refine wpAnyH_take (i := 17) (oi := { dst := some 40, op := Op.move (Operand.tmp 6), type := 3, pos := "lent.go:289", after := #[{ on := 16, ground := Ground.guard }], guard := some (16, false) }) (v := ?_) rfl (by kernel_rfl) (by kernel_rfl) (by kernel_rfl) (fun _ _ _ h => h) (Or.inl ⟨by rfl, ?_⟩) (by assumption) ?_
      rotate_left
      focus (intro w hSw; (try dsimp only at hSw); go_simp; try with_reducible rfl)
      try simp only [Act.put, List.setIfInBounds_toArray, List.set_cons_zero, List.set_cons_succ]
      refine wpAnyH_take (i := 18) (oi := { dst := some 41, op := Op.move (Operand.tmp 1), type := 38, pos := "lent.go:289", after := #[{ on := 16, ground := Ground.guard }], guard := some (16, false) }) (v := ?_) rfl (by kernel_rfl) (by kernel_rfl) (by kernel_rfl) (fun _ _ _ h => h) (Or.inl ⟨by rfl, ?_⟩) (by assumption) ?_
      rotate_left
      focus (intro w hSw; (try dsimp only at hSw); go_simp; try with_reducible rfl)
      try simp only [Act.put, List.setIfInBounds_toArray, List.set_cons_zero, List.set_cons_succ]
      refine wpAnyH_take (i := 19) (oi := { dst := some 42, op := Op.call { callee := Callee.builtin Builtin.len, args := #[Operand.tmp 41], argTypes := #[38] }, type := 3, pos := "lent.go:289", after := #[{ on := 18, ground := Ground.data }, { on := 16, ground := Ground.guard }], guard := some (16, false) }) (v := ?_) rfl (by kernel_rfl) (by kernel_rfl) (by kernel_rfl) (fun _ _ _ h => h) (Or.inl ⟨by rfl, ?_⟩) (by assumption) ?_
      rotate_left
      focus (intro w hSw; (try dsimp only at hSw); go_simp; try with_reducible rfl)
      try simp only [Act.put, List.setIfInBounds_toArray, List.set_cons_zero, List.set_cons_succ]
      refine wpAnyH_take (i := 20) (oi := { dst := some 43, op := Op.binOp BinOp.geq 3 (Operand.tmp 40) (Operand.tmp 42) 3, type := 4, pos := "lent.go:289", after := #[{ on := 17, ground := Ground.data }, { on := 19, ground := Ground.data }, { on := 16, ground := Ground.guard }], guard := some (16, false) }) (v := ?_) rfl (by kernel_rfl) (by kernel_rfl) (by kernel_rfl) (fun _ _ _ h => h) (Or.inl ⟨by rfl, ?_⟩) (by assumption) ?_
      rotate_left
      focus (intro w hSw; (try dsimp only at hSw); go_simp; try with_reducible rfl)
      try simp only [Act.put, List.setIfInBounds_toArray, List.set_cons_zero, List.set_cons_succ]
      refine wpAnyH_take (i := 21) (oi := { dst := some 44, op := Op.move (Operand.tmp 43), type := 4, pos := "lent.go:289", after := #[{ on := 20, ground := Ground.data }, { on := 16, ground := Ground.chain }, { on := 16, ground := Ground.guard }], guard := some (16, false) }) (v := ?_) rfl (by kernel_rfl) (by kernel_rfl) (by kernel_rfl) (fun _ _ _ h => h) (Or.inl ⟨by rfl, ?_⟩) (by assumption) ?_
      rotate_left
      focus (intro w hSw; (try dsimp only at hSw); go_simp; try with_reducible rfl)
      try simp only [Act.put, List.setIfInBounds_toArray, List.set_cons_zero, List.set_cons_succ]
      refine wpAnyH_take (i := 22) (oi := { dst := some 45, op := Op.move (Operand.tmp 5), type := 38, pos := "lent.go:289", after := #[{ on := 21, ground := Ground.guard }], guard := some (21, true) }) (v := undef) rfl (by kernel_rfl) (by kernel_rfl) (by kernel_rfl) (fun _ _ _ h => h) (Or.inr ⟨by rfl, by rfl⟩) (by assumption) ?_
      try simp only [Act.put, List.setIfInBounds_toArray, List.set_cons_zero, List.set_cons_succ]
      refine wpAnyH_take (i := 23) (oi := { dst := some 46, op := Op.move (Operand.tmp 6), type := 3, pos := "lent.go:289", after := #[{ on := 21, ground := Ground.guard }], guard := some (21, true) }) (v := undef) rfl (by kernel_rfl) (by kernel_rfl) (by kernel_rfl) (fun _ _ _ h => h) (Or.inr ⟨by rfl, by rfl⟩) (by assumption) ?_
      try simp only [Act.put, List.setIfInBounds_toArray, List.set_cons_zero, List.set_cons_succ]
      refine wpAnyH_take (i := 24) (oi := { dst := some 47, op := Op.indexAddr 38 (Operand.tmp 45) (Operand.tmp 46), type := 0, pos := "lent.go:289", after := #[{ on := 22, ground := Ground.data }, { on := 23, ground := Ground.data }, { on := 21, ground := Ground.guard }], guard := some (21, true) }) (v := undef) rfl (by kernel_rfl) (by kernel_rfl) (by kernel_rfl) (fun _ _ _ h => h) (Or.inr ⟨by rfl, by rfl⟩) (by assumption) ?_
      try simp only [Act.put, List.setIfInBounds_toArray, List.set_cons_zero, List.set_cons_succ]
      refine wpAnyH_take (i := 25) (oi := { dst := some 48, op := Op.load 24 (Operand.tmp 47), type := 24, pos := "lent.go:289", after := #[{ on := 24, ground := Ground.data }, { on := 21, ground := Ground.guard }], guard := some (21, true) }) (v := undef) rfl (by kernel_rfl) (by kernel_rfl) (by kernel_rfl) (fun _ _ _ h => h) (Or.inr ⟨by rfl, by rfl⟩) (by assumption) ?_
      try simp only [Act.put, List.setIfInBounds_toArray, List.set_cons_zero, List.set_cons_succ]
      refine wpAnyH_take (i := 26) (oi := { dst := some 49, op := Op.move (Operand.tmp 6), type := 3, pos := "lent.go:289", after := #[{ on := 21, ground := Ground.guard }], guard := some (21, true) }) (v := undef) rfl (by kernel_rfl) (by kernel_rfl) (by kernel_rfl) (fun _ _ _ h => h) (Or.inr ⟨by rfl, by rfl⟩) (by assumption) ?_
      try simp only [Act.put, List.setIfInBounds_toArray, List.set_cons_zero, List.set_cons_succ]
      refine wpAnyH_take (i := 27) (oi := { dst := some 50, op := Op.move (Operand.tmp 1), type := 38, pos := "lent.go:289", after := #[{ on := 21, ground := Ground.guard }], guard := some (21, true) }) (v := undef) rfl (by kernel_rfl) (by kernel_rfl) (by kernel_rfl) (fun _ _ _ h => h) (Or.inr ⟨by rfl, by rfl⟩) (by assumption) ?_
      try simp only [Act.put, List.setIfInBounds_toArray, List.set_cons_zero, List.set_cons_succ]
      refine wpAnyH_take (i := 28) (oi := { dst := some 51, op := Op.call { callee := Callee.builtin Builtin.len, args := #[Operand.tmp 50], argTypes := #[38] }, type := 3, pos := "lent.go:289", after := #[{ on := 27, ground := Ground.data }, { on := 21, ground := Ground.guard }], guard := some (21, true) }) (v := undef) rfl (by kernel_rfl) (by kernel_rfl) (by kernel_rfl) (fun _ _ _ h => h) (Or.inr ⟨by rfl, by rfl⟩) (by assumption) ?_
      try simp only [Act.put, List.setIfInBounds_toArray, List.set_cons_zero, List.set_cons_succ]
      refine wpAnyH_take (i := 29) (oi := { dst := some 52, op := Op.binOp BinOp.sub 3 (Operand.tmp 49) (Operand.tmp 51) 3, type := 3, pos := "lent.go:289", after := #[{ on := 26, ground := Ground.data }, { on := 28, ground := Ground.data }, { on := 21, ground := Ground.guard }], guard := some (21, true) }) (v := undef) rfl (by kernel_rfl) (by kernel_rfl) (by kernel_rfl) (fun _ _ _ h => h) (Or.inr ⟨by rfl, by rfl⟩) (by assumption) ?_
      try simp only [Act.put, List.setIfInBounds_toArray, List.set_cons_zero, List.set_cons_succ]
      refine wpAnyH_take (i := 30) (oi := { dst := some 53, op := Op.call { callee := Callee.value (Operand.func 101), args := #[Operand.const (Value.int IntKind.i64 1), Operand.tmp 52], argTypes := #[3, 3] }, type := 24, pos := "lent.go:289", after := #[{ on := 29, ground := Ground.data }, { on := 21, ground := Ground.chain }, { on := 21, ground := Ground.guard }], guard := some (21, true) }) (v := undef) rfl (by kernel_rfl) (by kernel_rfl) (by kernel_rfl) (fun _ _ _ h => h) (Or.inr ⟨by rfl, by rfl⟩) (by assumption) ?_
      try simp only [Act.put, List.setIfInBounds_toArray, List.set_cons_zero, List.set_cons_succ]
      refine wpAnyH_take (i := 31) (oi := { dst := some 54, op := Op.call { callee := Callee.value (Operand.func 38), args := #[Operand.tmp 48, Operand.tmp 53], argTypes := #[24, 24] }, type := 4, pos := "lent.go:289", after := #[{ on := 25, ground := Ground.data }, { on := 30, ground := Ground.data }, { on := 30, ground := Ground.chain }, { on := 21, ground := Ground.guard }], guard := some (21, true) }) (v := undef) rfl (by kernel_rfl) (by kernel_rfl) (by kernel_rfl) (fun _ _ _ h => h) (Or.inr ⟨by rfl, by rfl⟩) (by assumption) ?_
      try simp only [Act.put, List.setIfInBounds_toArray, List.set_cons_zero, List.set_cons_succ]
      refine wpAnyH_take (i := 32) (oi := { dst := some 55, op := Op.unOp UnOp.not 4 (Operand.tmp 54), type := 4, pos := "lent.go:289", after := #[{ on := 31, ground := Ground.data }, { on := 21, ground := Ground.guard }], guard := some (21, true) }) (v := undef) rfl (by kernel_rfl) (by kernel_rfl) (by kernel_rfl) (fun _ _ _ h => h) (Or.inr ⟨by rfl, by rfl⟩) (by assumption) ?_
      try simp only [Act.put, List.setIfInBounds_toArray, List.set_cons_zero, List.set_cons_succ]
      refine wpAnyH_take (i := 33) (oi := { dst := some 56, op := Op.pick (Operand.tmp 44) (Operand.tmp 55) (Operand.const (Value.bool false)), type := 4, pos := "lent.go:289", after := #[{ on := 21, ground := Ground.data }, { on := 32, ground := Ground.data }, { on := 16, ground := Ground.guard }], guard := some (16, false) }) (v := ?_) rfl (by kernel_rfl) (by kernel_rfl) (by kernel_rfl) (fun _ _ _ h => h) (Or.inl ⟨by rfl, ?_⟩) (by assumption) ?_
      rotate_left
      focus (intro w hSw; (try dsimp only at hSw); go_simp; try with_reducible rfl)
      try simp only [Act.put, List.setIfInBounds_toArray, List.set_cons_zero, List.set_cons_succ]
      refine wpAnyH_take (i := 34) (oi := { dst := some 57, op := Op.pick (Operand.tmp 39) (Operand.const (Value.bool true)) (Operand.tmp 56), type := 4, pos := "lent.go:289", after := #[{ on := 16, ground := Ground.data }, { on := 33, ground := Ground.data }], guard := none }) (v := ?_) rfl (by kernel_rfl) (by kernel_rfl) (by kernel_rfl) (fun _ _ _ h => h) (Or.inl ⟨by rfl, ?_⟩) (by assumption) ?_
      rotate_left
      focus (intro w hSw; (try dsimp only at hSw); go_simp; try with_reducible rfl)
      try simp only [Act.put, List.setIfInBounds_toArray, List.set_cons_zero, List.set_cons_succ]
      refine wpAnyH_done (by kernel_rfl) ?_ _
      go_wp2
      go_roundw
      case rel => exact ⟨k + 1, by omega, by go_num, by assumption⟩
      case measure => simp [intOf]; omega
    · by_cases hk12 : k < n + 12
      · obtain ⟨gm, hgm, hm⟩ := HMK.out (k - n) (by omega)
        have hc3 : wr.cell? ⟨g, k, none⟩ = some (.slice (some ⟨gm, 0, none⟩) 1 1) := by
          have h := rowN_cell HROW.out k (by omega)
          rw [show n + (k - n) = k by omega] at hgm
          rw [hgm] at h
          exact keep_cell HB.out h
        have HM := Lib.hid hm
        have hkI : (n : Int) ≤ k := by omega
        have hkJ : (k : Int) < (n : Int) + 12 := by omega
        have hge : decide ((n : Int) ≤ k) = true := by rw [decide_eq_true_iff]; omega
        have hlt : decide ((k : Int) < n) = false := by rw [decide_eq_false_iff_not]; omega
        have hltN : decide (k < n) = false := by rw [decide_eq_false_iff_not]; omega
        have hgeN : decide (n ≤ k) = true := by rw [decide_eq_true_iff]; omega
        have hwr : IntKind.i64.wrap ((k : Int) - n) = ((k - n : Nat) : Int) := by rw [IntKind.wrap_i64]; omega
        have hwr2 : ((k : Int) - n) = ((k - n : Nat) : Int) := by omega
        have HMARK := Lib.hid (fun (z : Int) (W : World) (hz : z = ((k - n : Nat) : Int)) => markn_any (k - n) z hz W (by omega))
        have HWR := Lib.hid hwr
        have HWR2 := Lib.hid hwr2
        clear hkn hgm hm hwr hwr2
        go_wp2
        refine wp_region_held_drew (S := (fun W => W.cell? ⟨g, k, none⟩ = some (.slice (some ⟨gm, 0, none⟩) 1 1) ∧ Hid (Below w.heap.size w W))) (by kernel_rfl) ⟨hc3, bl_trans HB.out (bl_drew _)⟩ (fun hHeld => ?_)
        refine wpAnyH_take (i := 0) (oi := { dst := some 23, op := Op.move (Operand.tmp 6), type := 3, pos := "lent.go:289", after := #[], guard := none }) (v := ?_) rfl (by kernel_rfl) (by kernel_rfl) (by kernel_rfl) (fun _ _ _ h => h) (Or.inl ⟨by rfl, ?_⟩) (by assumption) ?_
        rotate_left
        focus (intro w hSw; (try dsimp only at hSw); go_simp; try with_reducible rfl)
        try simp only [Act.put, List.setIfInBounds_toArray, List.set_cons_zero, List.set_cons_succ]
        refine wpAnyH_take (i := 1) (oi := { dst := some 24, op := Op.move (Operand.tmp 1), type := 38, pos := "lent.go:289", after := #[], guard := none }) (v := ?_) rfl (by kernel_rfl) (by kernel_rfl) (by kernel_rfl) (fun _ _ _ h => h) (Or.inl ⟨by rfl, ?_⟩) (by assumption) ?_
        rotate_left
        focus (intro w hSw; (try dsimp only at hSw); go_simp; try with_reducible rfl)
        try simp only [Act.put, List.setIfInBounds_toArray, List.set_cons_zero, List.set_cons_succ]
        refine wpAnyH_take (i := 2) (oi := { dst := some 25, op := Op.call { callee := Callee.builtin Builtin.len, args := #[Operand.tmp 24], argTypes := #[38] }, type := 3, pos := "lent.go:289", after := #[{ on := 1, ground := Ground.data }], guard := none }) (v := ?_) rfl (by kernel_rfl) (by kernel_rfl) (by kernel_rfl) (fun _ _ _ h => h) (Or.inl ⟨by rfl, ?_⟩) (by assumption) ?_
        rotate_left
        focus (intro w hSw; (try dsimp only at hSw); go_simp; try with_reducible rfl)
        try simp only [Act.put, List.setIfInBounds_toArray, List.set_cons_zero, List.set_cons_succ]
        refine wpAnyH_take (i := 3) (oi := { dst := some 26, op := Op.binOp BinOp.lss 3 (Operand.tmp 23) (Operand.tmp 25) 3, type := 4, pos := "lent.go:289", after := #[{ on := 0, ground := Ground.data }, { on := 2, ground := Ground.data }], guard := none }) (v := ?_) rfl (by kernel_rfl) (by kernel_rfl) (by kernel_rfl) (fun _ _ _ h => h) (Or.inl ⟨by rfl, ?_⟩) (by assumption) ?_
        rotate_left
        focus (intro w hSw; (try dsimp only at hSw); go_simp; try with_reducible rfl)
        try simp only [Act.put, List.setIfInBounds_toArray, List.set_cons_zero, List.set_cons_succ]
        refine wpAnyH_take (i := 4) (oi := { dst := some 27, op := Op.move (Operand.tmp 26), type := 4, pos := "lent.go:289", after := #[{ on := 3, ground := Ground.data }], guard := none }) (v := ?_) rfl (by kernel_rfl) (by kernel_rfl) (by kernel_rfl) (fun _ _ _ h => h) (Or.inl ⟨by rfl, ?_⟩) (by assumption) ?_
        rotate_left
        focus (intro w hSw; (try dsimp only at hSw); go_simp; try with_reducible rfl)
        try simp only [Act.put, List.setIfInBounds_toArray, List.set_cons_zero, List.set_cons_succ]
        refine wpAnyH_take (i := 5) (oi := { dst := some 28, op := Op.move (Operand.tmp 5), type := 38, pos := "lent.go:289", after := #[{ on := 4, ground := Ground.guard }], guard := some (4, true) }) (v := undef) rfl (by kernel_rfl) (by kernel_rfl) (by kernel_rfl) (fun _ _ _ h => h) (Or.inr ⟨by rfl, by rfl⟩) (by assumption) ?_
        try simp only [Act.put, List.setIfInBounds_toArray, List.set_cons_zero, List.set_cons_succ]
        refine wpAnyH_take (i := 6) (oi := { dst := some 29, op := Op.move (Operand.tmp 6), type := 3, pos := "lent.go:289", after := #[{ on := 4, ground := Ground.guard }], guard := some (4, true) }) (v := undef) rfl (by kernel_rfl) (by kernel_rfl) (by kernel_rfl) (fun _ _ _ h => h) (Or.inr ⟨by rfl, by rfl⟩) (by assumption) ?_
        try simp only [Act.put, List.setIfInBounds_toArray, List.set_cons_zero, List.set_cons_succ]
        refine wpAnyH_take (i := 7) (oi := { dst := some 30, op := Op.indexAddr 38 (Operand.tmp 28) (Operand.tmp 29), type := 0, pos := "lent.go:289", after := #[{ on := 5, ground := Ground.data }, { on := 6, ground := Ground.data }, { on := 4, ground := Ground.guard }], guard := some (4, true) }) (v := undef) rfl (by kernel_rfl) (by kernel_rfl) (by kernel_rfl) (fun _ _ _ h => h) (Or.inr ⟨by rfl, by rfl⟩) (by assumption) ?_
        try simp only [Act.put, List.setIfInBounds_toArray, List.set_cons_zero, List.set_cons_succ]
        refine wpAnyH_take (i := 8) (oi := { dst := some 31, op := Op.load 24 (Operand.tmp 30), type := 24, pos := "lent.go:289", after := #[{ on := 7, ground := Ground.data }, { on := 4, ground := Ground.guard }], guard := some (4, true) }) (v := undef) rfl (by kernel_rfl) (by kernel_rfl) (by kernel_rfl) (fun _ _ _ h => h) (Or.inr ⟨by rfl, by rfl⟩) (by assumption) ?_
        try simp only [Act.put, List.setIfInBounds_toArray, List.set_cons_zero, List.set_cons_succ]
        refine wpAnyH_take (i := 9) (oi := { dst := some 32, op := Op.move (Operand.tmp 1), type := 38, pos := "lent.go:289", after := #[{ on := 4, ground := Ground.guard }], guard := some (4, true) }) (v := undef) rfl (by kernel_rfl) (by kernel_rfl) (by kernel_rfl) (fun _ _ _ h => h) (Or.inr ⟨by rfl, by rfl⟩) (by assumption) ?_
        try simp only [Act.put, List.setIfInBounds_toArray, List.set_cons_zero, List.set_cons_succ]
        refine wpAnyH_take (i := 10) (oi := { dst := some 33, op := Op.move (Operand.tmp 6), type := 3, pos := "lent.go:289", after := #[{ on := 4, ground := Ground.guard }], guard := some (4, true) }) (v := undef) rfl (by kernel_rfl) (by kernel_rfl) (by kernel_rfl) (fun _ _ _ h => h) (Or.inr ⟨by rfl, by rfl⟩) (by assumption) ?_
        try simp only [Act.put, List.setIfInBounds_toArray, List.set_cons_zero, List.set_cons_succ]
        refine wpAnyH_take (i := 11) (oi := { dst := some 34, op := Op.indexAddr 38 (Operand.tmp 32) (Operand.tmp 33), type := 0, pos := "lent.go:289", after := #[{ on := 9, ground := Ground.data }, { on := 10, ground := Ground.data }, { on := 4, ground := Ground.guard }], guard := some (4, true) }) (v := undef) rfl (by kernel_rfl) (by kernel_rfl) (by kernel_rfl) (fun _ _ _ h => h) (Or.inr ⟨by rfl, by rfl⟩) (by assumption) ?_
        try simp only [Act.put, List.setIfInBounds_toArray, List.set_cons_zero, List.set_cons_succ]
        refine wpAnyH_take (i := 12) (oi := { dst := some 35, op := Op.load 24 (Operand.tmp 34), type := 24, pos := "lent.go:289", after := #[{ on := 11, ground := Ground.data }, { on := 4, ground := Ground.guard }], guard := some (4, true) }) (v := undef) rfl (by kernel_rfl) (by kernel_rfl) (by kernel_rfl) (fun _ _ _ h => h) (Or.inr ⟨by rfl, by rfl⟩) (by assumption) ?_
        try simp only [Act.put, List.setIfInBounds_toArray, List.set_cons_zero, List.set_cons_succ]
        refine wpAnyH_take (i := 13) (oi := { dst := some 36, op := Op.call { callee := Callee.value (Operand.func 20), args := #[Operand.tmp 31, Operand.tmp 35], argTypes := #[24, 24] }, type := 4, pos := "lent.go:289", after := #[{ on := 8, ground := Ground.data }, { on := 12, ground := Ground.data }, { on := 4, ground := Ground.chain }, { on := 4, ground := Ground.guard }], guard := some (4, true) }) (v := undef) rfl (by kernel_rfl) (by kernel_rfl) (by kernel_rfl) (fun _ _ _ h => h) (Or.inr ⟨by rfl, by rfl⟩) (by assumption) ?_
        try simp only [Act.put, List.setIfInBounds_toArray, List.set_cons_zero, List.set_cons_succ]
        refine wpAnyH_take (i := 14) (oi := { dst := some 37, op := Op.unOp UnOp.not 4 (Operand.tmp 36), type := 4, pos := "lent.go:289", after := #[{ on := 13, ground := Ground.data }, { on := 4, ground := Ground.guard }], guard := some (4, true) }) (v := undef) rfl (by kernel_rfl) (by kernel_rfl) (by kernel_rfl) (fun _ _ _ h => h) (Or.inr ⟨by rfl, by rfl⟩) (by assumption) ?_
        try simp only [Act.put, List.setIfInBounds_toArray, List.set_cons_zero, List.set_cons_succ]
        refine wpAnyH_take (i := 15) (oi := { dst := some 38, op := Op.pick (Operand.tmp 27) (Operand.tmp 37) (Operand.const (Value.bool false)), type := 4, pos := "lent.go:289", after := #[{ on := 4, ground := Ground.data }, { on := 14, ground := Ground.data }], guard := none }) (v := ?_) rfl (by kernel_rfl) (by kernel_rfl) (by kernel_rfl) (fun _ _ _ h => h) (Or.inl ⟨by rfl, ?_⟩) (by assumption) ?_
        rotate_left
        focus (intro w hSw; (try dsimp only at hSw); go_simp; try with_reducible rfl)
        try simp only [Act.put, List.setIfInBounds_toArray, List.set_cons_zero, List.set_cons_succ]
        refine wpAnyH_take (i := 16) (oi := { dst := some 39, op := Op.move (Operand.tmp 38), type := 4, pos := "lent.go:289", after := #[{ on := 15, ground := Ground.data }, { on := 13, ground := Ground.chain }], guard := none }) (v := ?_) rfl (by kernel_rfl) (by kernel_rfl) (by kernel_rfl) (fun _ _ _ h => h) (Or.inl ⟨by rfl, ?_⟩) (by assumption) ?_
        rotate_left
        focus (intro w hSw; (try dsimp only at hSw); go_simp; try with_reducible rfl)
        try simp only [Act.put, List.setIfInBounds_toArray, List.set_cons_zero, List.set_cons_succ]
        refine wpAnyH_take (i := 17) (oi := { dst := some 40, op := Op.move (Operand.tmp 6), type := 3, pos := "lent.go:289", after := #[{ on := 16, ground := Ground.guard }], guard := some (16, false) }) (v := ?_) rfl (by kernel_rfl) (by kernel_rfl) (by kernel_rfl) (fun _ _ _ h => h) (Or.inl ⟨by rfl, ?_⟩) (by assumption) ?_
        rotate_left
        focus (intro w hSw; (try dsimp only at hSw); go_simp; try with_reducible rfl)
        try simp only [Act.put, List.setIfInBounds_toArray, List.set_cons_zero, List.set_cons_succ]
        refine wpAnyH_take (i := 18) (oi := { dst := some 41, op := Op.move (Operand.tmp 1), type := 38, pos := "lent.go:289", after := #[{ on := 16, ground := Ground.guard }], guard := some (16, false) }) (v := ?_) rfl (by kernel_rfl) (by kernel_rfl) (by kernel_rfl) (fun _ _ _ h => h) (Or.inl ⟨by rfl, ?_⟩) (by assumption) ?_
        rotate_left
        focus (intro w hSw; (try dsimp only at hSw); go_simp; try with_reducible rfl)
        try simp only [Act.put, List.setIfInBounds_toArray, List.set_cons_zero, List.set_cons_succ]
        refine wpAnyH_take (i := 19) (oi := { dst := some 42, op := Op.call { callee := Callee.builtin Builtin.len, args := #[Operand.tmp 41], argTypes := #[38] }, type := 3, pos := "lent.go:289", after := #[{ on := 18, ground := Ground.data }, { on := 16, ground := Ground.guard }], guard := some (16, false) }) (v := ?_) rfl (by kernel_rfl) (by kernel_rfl) (by kernel_rfl) (fun _ _ _ h => h) (Or.inl ⟨by rfl, ?_⟩) (by assumption) ?_
        rotate_left
        focus (intro w hSw; (try dsimp only at hSw); go_simp; try with_reducible rfl)
        try simp only [Act.put, List.setIfInBounds_toArray, List.set_cons_zero, List.set_cons_succ]
        refine wpAnyH_take (i := 20) (oi := { dst := some 43, op := Op.binOp BinOp.geq 3 (Operand.tmp 40) (Operand.tmp 42) 3, type := 4, pos := "lent.go:289", after := #[{ on := 17, ground := Ground.data }, { on := 19, ground := Ground.data }, { on := 16, ground := Ground.guard }], guard := some (16, false) }) (v := ?_) rfl (by kernel_rfl) (by kernel_rfl) (by kernel_rfl) (fun _ _ _ h => h) (Or.inl ⟨by rfl, ?_⟩) (by assumption) ?_
        rotate_left
        focus (intro w hSw; (try dsimp only at hSw); go_simp; try with_reducible rfl)
        try simp only [Act.put, List.setIfInBounds_toArray, List.set_cons_zero, List.set_cons_succ]
        refine wpAnyH_take (i := 21) (oi := { dst := some 44, op := Op.move (Operand.tmp 43), type := 4, pos := "lent.go:289", after := #[{ on := 20, ground := Ground.data }, { on := 16, ground := Ground.chain }, { on := 16, ground := Ground.guard }], guard := some (16, false) }) (v := ?_) rfl (by kernel_rfl) (by kernel_rfl) (by kernel_rfl) (fun _ _ _ h => h) (Or.inl ⟨by rfl, ?_⟩) (by assumption) ?_
        rotate_left
        focus (intro w hSw; (try dsimp only at hSw); go_simp; try with_reducible rfl)
        try simp only [Act.put, List.setIfInBounds_toArray, List.set_cons_zero, List.set_cons_succ]
        refine wpAnyH_take (i := 22) (oi := { dst := some 45, op := Op.move (Operand.tmp 5), type := 38, pos := "lent.go:289", after := #[{ on := 21, ground := Ground.guard }], guard := some (21, true) }) (v := ?_) rfl (by kernel_rfl) (by kernel_rfl) (by kernel_rfl) (fun _ _ _ h => h) (Or.inl ⟨by rfl, ?_⟩) (by assumption) ?_
        rotate_left
        focus (intro w hSw; (try dsimp only at hSw); go_simp; try with_reducible rfl)
        try simp only [Act.put, List.setIfInBounds_toArray, List.set_cons_zero, List.set_cons_succ]
        refine wpAnyH_take (i := 23) (oi := { dst := some 46, op := Op.move (Operand.tmp 6), type := 3, pos := "lent.go:289", after := #[{ on := 21, ground := Ground.guard }], guard := some (21, true) }) (v := ?_) rfl (by kernel_rfl) (by kernel_rfl) (by kernel_rfl) (fun _ _ _ h => h) (Or.inl ⟨by rfl, ?_⟩) (by assumption) ?_
        rotate_left
        focus (intro w hSw; (try dsimp only at hSw); go_simp; try with_reducible rfl)
        try simp only [Act.put, List.setIfInBounds_toArray, List.set_cons_zero, List.set_cons_succ]
        refine wpAnyH_take (i := 24) (oi := { dst := some 47, op := Op.indexAddr 38 (Operand.tmp 45) (Operand.tmp 46), type := 0, pos := "lent.go:289", after := #[{ on := 22, ground := Ground.data }, { on := 23, ground := Ground.data }, { on := 21, ground := Ground.guard }], guard := some (21, true) }) (v := ?_) rfl (by kernel_rfl) (by kernel_rfl) (by kernel_rfl) (fun _ _ _ h => h) (Or.inl ⟨by rfl, ?_⟩) (by assumption) ?_
        rotate_left
        focus (intro w hSw; (try dsimp only at hSw); go_simp; try with_reducible rfl)
        try simp only [Act.put, List.setIfInBounds_toArray, List.set_cons_zero, List.set_cons_succ]
        refine wpAnyH_take (i := 25) (oi := { dst := some 48, op := Op.load 24 (Operand.tmp 47), type := 24, pos := "lent.go:289", after := #[{ on := 24, ground := Ground.data }, { on := 21, ground := Ground.guard }], guard := some (21, true) }) (v := ?_) rfl (by kernel_rfl) (by kernel_rfl) (by kernel_rfl) (fun _ _ _ h => h) (Or.inl ⟨by rfl, ?_⟩) (by assumption) ?_
        rotate_left
        focus (intro w hSw; (try dsimp only at hSw); go_simp; try with_reducible rfl)
        try simp only [Act.put, List.setIfInBounds_toArray, List.set_cons_zero, List.set_cons_succ]
        refine wpAnyH_take (i := 26) (oi := { dst := some 49, op := Op.move (Operand.tmp 6), type := 3, pos := "lent.go:289", after := #[{ on := 21, ground := Ground.guard }], guard := some (21, true) }) (v := ?_) rfl (by kernel_rfl) (by kernel_rfl) (by kernel_rfl) (fun _ _ _ h => h) (Or.inl ⟨by rfl, ?_⟩) (by assumption) ?_
        rotate_left
        focus (intro w hSw; (try dsimp only at hSw); go_simp; try with_reducible rfl)
        try simp only [Act.put, List.setIfInBounds_toArray, List.set_cons_zero, List.set_cons_succ]
        refine wpAnyH_take (i := 27) (oi := { dst := some 50, op := Op.move (Operand.tmp 1), type := 38, pos := "lent.go:289", after := #[{ on := 21, ground := Ground.guard }], guard := some (21, true) }) (v := ?_) rfl (by kernel_rfl) (by kernel_rfl) (by kernel_rfl) (fun _ _ _ h => h) (Or.inl ⟨by rfl, ?_⟩) (by assumption) ?_
        rotate_left
        focus (intro w hSw; (try dsimp only at hSw); go_simp; try with_reducible rfl)
        try simp only [Act.put, List.setIfInBounds_toArray, List.set_cons_zero, List.set_cons_succ]
        refine wpAnyH_take (i := 28) (oi := { dst := some 51, op := Op.call { callee := Callee.builtin Builtin.len, args := #[Operand.tmp 50], argTypes := #[38] }, type := 3, pos := "lent.go:289", after := #[{ on := 27, ground := Ground.data }, { on := 21, ground := Ground.guard }], guard := some (21, true) }) (v := ?_) rfl (by kernel_rfl) (by kernel_rfl) (by kernel_rfl) (fun _ _ _ h => h) (Or.inl ⟨by rfl, ?_⟩) (by assumption) ?_
        rotate_left
        focus (intro w hSw; (try dsimp only at hSw); go_simp; try with_reducible rfl)
        try simp only [Act.put, List.setIfInBounds_toArray, List.set_cons_zero, List.set_cons_succ]
        refine wpAnyH_take (i := 29) (oi := { dst := some 52, op := Op.binOp BinOp.sub 3 (Operand.tmp 49) (Operand.tmp 51) 3, type := 3, pos := "lent.go:289", after := #[{ on := 26, ground := Ground.data }, { on := 28, ground := Ground.data }, { on := 21, ground := Ground.guard }], guard := some (21, true) }) (v := ?_) rfl (by kernel_rfl) (by kernel_rfl) (by kernel_rfl) (fun _ _ _ h => h) (Or.inl ⟨by rfl, ?_⟩) (by assumption) ?_
        rotate_left
        focus (intro w hSw; (try dsimp only at hSw); go_simp; try with_reducible rfl)
        try simp only [Act.put, List.setIfInBounds_toArray, List.set_cons_zero, List.set_cons_succ]
        refine wpAnyH_ready (rs := [30]) (by kernel_rfl) (by simp) ?_
        refine AllReadyH.cons (o := { dst := some 53, op := Op.call { callee := Callee.value (Operand.func 101), args := #[Operand.const (Value.int IntKind.i64 1), Operand.tmp 52], argTypes := #[3, 3] }, type := 24, pos := "lent.go:289", after := #[{ on := 29, ground := Ground.data }, { on := 21, ground := Ground.chain }, { on := 21, ground := Ground.guard }], guard := some (21, true) }) rfl (fun K hK => ?_) AllReadyH.nil
        go_simp
        go_at_call 101
        refine (HMARK.out _ _ (by first | rfl | exact HWR.out | exact HWR2.out)).mono ?_
        rintro e w6 ⟨v6, rfl, hm6, hb6⟩
        have hq1 : World.cell? w6 ⟨g, k, none⟩ = some (.slice (some ⟨gm, 0, none⟩) 1 1) := keep_cell hb6 hc3
        have hq3 : Hid (Below w.heap.size w w6) := keep_below hb6 (bl_trans HB.out (bl_drew _))
        obtain ⟨g6, rfl, ho6⟩ := hm6
        have hsm := samenat_any (some ⟨gm, 0, none⟩) (some ⟨g6, 0, none⟩) 1 1 [8000024 + (k - n)] [8000024 + (k - n)] w6 (own_form1 (own_below HM.out hq3.out)) (own_form1 ho6) (by simp) (by simp)
        rw [show decide ([8000024 + (k - n)] = [8000024 + (k - n)]) = true by simp] at hsm
        have HSM := Lib.hid hsm
        clear hb6 ho6 hsm
        try go_wp2_with fail
        refine hK.out _ _ ⟨hq1, hq3⟩ (fun hHeld2 => ?_)
        clear hK K
        try simp only [Act.put, List.setIfInBounds_toArray, List.set_cons_zero, List.set_cons_succ]
        refine wpAnyH_ready (rs := [31]) (by kernel_rfl) (by simp) ?_
        refine AllReadyH.cons (o := { dst := some 54, op := Op.call { callee := Callee.value (Operand.func 38), args := #[Operand.tmp 48, Operand.tmp 53], argTypes := #[24, 24] }, type := 4, pos := "lent.go:289", after := #[{ on := 25, ground := Ground.data }, { on := 30, ground := Ground.data }, { on := 30, ground := Ground.chain }, { on := 21, ground := Ground.guard }], guard := some (21, true) }) rfl (fun K hK => ?_) AllReadyH.nil
        go_simp
        go_at_call 38
        refine HSM.out.mono ?_
        rintro e w7 ⟨rfl, hb7⟩
        have hr1 : World.cell? w7 ⟨g, k, none⟩ = some (.slice (some ⟨gm, 0, none⟩) 1 1) := keep_cell hb7 hq1
        have hr3 : Hid (Below w.heap.size w w7) := keep_below hb7 hq3
        clear hb7
        try go_wp2_with fail
        refine hK.out _ _ ⟨hr1, hr3⟩ (fun hHeld3 => ?_)
        clear hK K
        try simp only [Act.put, List.setIfInBounds_toArray, List.set_cons_zero, List.set_cons_succ]
        refine wpAnyH_take (i := 32) (oi := { dst := some 55, op := Op.unOp UnOp.not 4 (Operand.tmp 54), type := 4, pos := "lent.go:289", after := #[{ on := 31, ground := Ground.data }, { on := 21, ground := Ground.guard }], guard := some (21, true) }) (v := ?_) rfl (by kernel_rfl) (by kernel_rfl) (by kernel_rfl) (fun _ _ _ h => h) (Or.inl ⟨by rfl, ?_⟩) (by assumption) ?_
        rotate_left
        focus (intro w hSw; (try dsimp only at hSw); go_simp; try with_reducible rfl)
        try simp only [Act.put, List.setIfInBounds_toArray, List.set_cons_zero, List.set_cons_succ]
        refine wpAnyH_take (i := 33) (oi := { dst := some 56, op := Op.pick (Operand.tmp 44) (Operand.tmp 55) (Operand.const (Value.bool false)), type := 4, pos := "lent.go:289", after := #[{ on := 21, ground := Ground.data }, { on := 32, ground := Ground.data }, { on := 16, ground := Ground.guard }], guard := some (16, false) }) (v := ?_) rfl (by kernel_rfl) (by kernel_rfl) (by kernel_rfl) (fun _ _ _ h => h) (Or.inl ⟨by rfl, ?_⟩) (by assumption) ?_
        rotate_left
        focus (intro w hSw; (try dsimp only at hSw); go_simp; try with_reducible rfl)
        try simp only [Act.put, List.setIfInBounds_toArray, List.set_cons_zero, List.set_cons_succ]
        refine wpAnyH_take (i := 34) (oi := { dst := some 57, op := Op.pick (Operand.tmp 39) (Operand.const (Value.bool true)) (Operand.tmp 56), type := 4, pos := "lent.go:289", after := #[{ on := 16, ground := Ground.data }, { on := 33, ground := Ground.data }], guard := none }) (v := ?_) rfl (by kernel_rfl) (by kernel_rfl) (by kernel_rfl) (fun _ _ _ h => h) (Or.inl ⟨by rfl, ?_⟩) (by assumption) ?_
        rotate_left
        focus (intro w hSw; (try dsimp only at hSw); go_simp; try with_reducible rfl)
        try simp only [Act.put, List.setIfInBounds_toArray, List.set_cons_zero, List.set_cons_succ]
        refine wpAnyH_done (by kernel_rfl) ?_ _
        go_wp2
        go_roundw
        case rel => exact ⟨k + 1, by omega, by go_num, by assumption⟩
        case measure => simp [intOf]; omega
      · have hkJ : (n : Int) + 12 ≤ k := by omega
        go_wp2
        go_ret
        exact ⟨rfl, HB.out⟩
end Go.Proofs.YtcahnkocfbcchaaGreatDoor

