/- The document's trees: the walks of firsts, Order. -/
/- The document's trees: the walks of Order, deeps, Deep, bare. -/
import Derived.Test.YtjpccmiaimkmbaaGreatLm
import Derived.Test.YtjpccmiaimkmbaaGreatLr

namespace Go.Proofs.YtjpccmiaimkmbaaGreat
open Go.RowKit Tnr Tnt

def RFPost (n : Nat) (xs : List NV) (w : World) (e : Ending) (w' : World) : Prop :=
  Below w.heap.size w w' ∧ ((ordT (nds xs) = none ∧ ∃ a m d, e = .returned (.tuple #[.slice a m d, .bool false])) ∨
    ∃ l pf cf, ordT (nds xs) = some l ∧ n = l.length ∧ e = .returned (.tuple #[.slice pf n cf, .bool true]) ∧ OwnZ w' w.heap.size (.slice pf n cf) (fsZ l))
theorem drop_rev {l : List Int} {j : Nat} (h : j < l.length) : (l.drop j).reverse = (l.drop (j + 1)).reverse ++ [gz l j] := by
  rw [gz_get h, List.drop_eq_getElem_cons h, List.reverse_cons]
theorem rk_bad {F : Nat → Nat × Nat} {l : List Int} {j f d f1 d1 : Nat} (hj : j < l.length) (h : rk F (l.drop (j + 1)).reverse f d = some (f1, d1)) (hb : f1 = 0 ∨ gz l j ≠ (f1 : Int) - 1) : rk F l.reverse f d = none := by
  have h1 : rk F (l.drop j).reverse f d = none := by rw [drop_rev hj, rk_snoc h, if_pos hb]
  have e : l.reverse = (l.drop j).reverse ++ (l.take j).reverse := by rw [← List.reverse_append, List.take_append_drop]
  rw [e]; exact rk_prefix h1
theorem rk_good {F : Nat → Nat × Nat} {l : List Int} {j f d f1 d1 : Nat} (hj : j < l.length) (h : rk F (l.drop (j + 1)).reverse f d = some (f1, d1)) (h0 : f1 ≠ 0) (hb : gz l j = (f1 : Int) - 1) : rk F (l.drop j).reverse f d = some ((F (f1 - 1)).1, max d1 (F (f1 - 1)).2) := by
  rw [drop_rev hj, rk_snoc h, if_neg (by omega)]
set_option maxHeartbeats 3200000 in
set_option maxRecDepth 100000 in
theorem rfirsts_any (p : Option Addr) (n c : Nat) (xs : List NV) (names : Value) (w : World) (hn : n = xs.length) (hnm : n ≤ 1000000000) (hp : SlN w p xs) (hf : Few xs) :
    Calls Tryz.prog 43 #[.agg #[.slice p n c, names]] w (RFPost n xs w) := by
  obtain ⟨i0, hinf, hz0, hz1, hz2⟩ := info_parts info_intz
  obtain ⟨W1, hW1⟩ : ∃ W, W = w.alloc (.cells #[.slice p n c, names] 34) := ⟨_, rfl⟩
  have hb1 : Below w.heap.size w W1 := by rw [hW1]; exact bl_alloc _ _
  have hT : Bx W1 w.heap.size 34 #[.slice p n c, names] := by rw [hW1]; exact Bx.new _ _ _
  obtain ⟨b0, hb0⟩ : ∃ b, b = w.heap.size := ⟨_, rfl⟩
  rw [← hb0] at hT
  have cT0 : W1.cell? ⟨b0, 0, none⟩ = some (.slice p n c) := hT.cell rfl
  have HP := Lib.hid (hp.below hb1)
  have HN := Lib.hid hn
  have HF := Lib.hid hf
  have HT := Lib.hid hT
  have HB1 := Lib.hid hb1
  have HW1 := Lib.hid (And.intro hW1 hb0)
  have hnI : (n : Int) ≤ 1000000000 := by omega
  clear hp hn hf hb1 hT hW1 hb0
  by_cases hn0 : n = 0
  · have hq : ((n : Int) == 0) = true := by rw [hn0]; rfl
    have HZ : Hid (ordT (nds xs) = none) := by
      show _ = none
      unfold ordT
      rw [if_pos (.inl (by rw [nds_length, ← HN.out]; exact hn0))]
    clear hn0
    go_enter Tryz.func43, Tryz.ntmps43
    go_wp2_with fail
    rw [← HW1.out.2, show w.alloc (.cells #[.slice p n c, names] 34) = W1 from HW1.out.1.symm]
    go_wp2
    refine bodyPost_ret (v := .tuple #[.slice none 0 0, .bool false]) (by simp [results, Tryz.results43, go_sem]) rfl ⟨HB1.out, .inl ⟨HZ.out, _, _, _, rfl⟩⟩
  · have hq : ((n : Int) == 0) = false := by simpa using hn0
    by_cases hn4 : 4000 < n
    · have hq4 : decide ((4000 : Int) < n) = true := by simp; omega
      have HZ : Hid (ordT (nds xs) = none) := by
        show _ = none
        unfold ordT
        rw [if_pos (.inr (by rw [nds_length, ← HN.out]; exact hn4))]
      clear hn0
      go_enter Tryz.func43, Tryz.ntmps43
      go_wp2_with fail
      rw [← HW1.out.2, show w.alloc (.cells #[.slice p n c, names] 34) = W1 from HW1.out.1.symm]
      go_wp2
      refine bodyPost_ret (v := .tuple #[.slice none 0 0, .bool false]) (by simp [results, Tryz.results43, go_sem]) rfl ⟨HB1.out, .inl ⟨HZ.out, _, _, _, rfl⟩⟩
    · have hn4I : (n : Int) ≤ 4000 := by omega
      have hq4 : decide ((4000 : Int) < n) = false := by simp; omega
      have HN4 : Hid (1 ≤ n ∧ n ≤ 4000) := ⟨by omega, by omega⟩
      clear hn0 hn4 hnI hnm
      go_enter Tryz.func43, Tryz.ntmps43
      go_wp2_with fail
      rw [← HW1.out.2, show w.alloc (.cells #[.slice p n c, names] 34) = W1 from HW1.out.1.symm]
      go_wp2
      clear cT0
      go_loopw [4, 5] (fun ov iv wr => ∃ (k : Nat) (q : Option Addr) (d : Nat) (acc : List (Nat × Nat)), k ≤ n ∧ ov = .slice q k d ∧ iv = .int .i64 (k : Nat) ∧ Hid (k = acc.length) ∧ Hid (FOk (gf acc) k) ∧ Hid (ordG (nds xs) [] = ordG ((nds xs).drop k) acc) ∧ Hid (OwnZ wr W1.heap.size (.slice q k d) (fsZ acc)) ∧ Hid (Below W1.heap.size W1 wr)) (fun _ iv _ => n - (intOf iv).toNat)
      case atStart => exact ⟨0, none, 0, [], Nat.zero_le _, rfl, rfl, rfl, fun j hj => absurd hj (Nat.not_lt_zero _), rfl, ownZ_nil _ _, Below.refl _ _⟩
      case round =>
        obtain ⟨k, q, d, acc, hk, rfl, rfl, HL, HFO, HG, HO, HW⟩ := hrel
        rename World => wr
        have hTr := HT.out.below HW.out
        have cT0 : wr.cell? ⟨b0, 0, none⟩ = some (.slice p n c) := hTr.cell rfl
        clear hTr
        by_cases hkn : k < n
        · have hkI : (k : Int) < n := by omega
          have hkx : k < xs.length := by have := HN.out; omega
          obtain ⟨b, o, rfl, hcells, hin⟩ := (HP.out.below HW.out).at hkx
          have HGS := Lib.hid (nds_drop hkx)
          have hfew := HF.out _ (gn_mem hkx)
          obtain ⟨x, hx⟩ : ∃ x, x = gn xs k := ⟨_, rfl⟩
          rw [← hx] at hcells hin HGS hfew
          obtain ⟨ks, hks⟩ : ∃ l, l = x.nd.kids := ⟨_, rfl⟩
          obtain ⟨pk, hpk⟩ : ∃ q, q = x.pk := ⟨_, rfl⟩
          obtain ⟨ck, hck⟩ : ∃ q, q = x.ck := ⟨_, rfl⟩
          have ckk := hcells.2.2.1
          have hkz := hin.kids
          rw [← hks, ← hpk, ← hck] at ckk
          rw [← hks, ← hpk] at hkz
          rw [← hks] at hfew
          obtain ⟨lk, hlk⟩ : ∃ m, m = ks.length := ⟨_, rfl⟩
          rw [← hlk] at ckk hfew
          have HKZ := Lib.hid hkz
          have HLK := Lib.hid (And.intro hlk hks)
          have hlkI : (lk : Int) ≤ 1000000 := by omega
          clear hx hcells hin hfew hkz hlk hks hkx hpk hck
          go_wp2
          go_loopw [6, 8] (fun fv jv wq => ∃ (z : Int) (f dd j : Nat), fv = .int .i64 (f : Nat) ∧ jv = .int .i64 z ∧ z = (j : Int) - 1 ∧ j ≤ lk ∧ f ≤ k ∧ Hid (rk (gf acc) (ks.drop j).reverse k 0 = some (f, dd)) ∧ wq = wr) (fun _ jv _ => (intOf jv + 1).toNat)
          case atStart => exact ⟨(lk : Int) - 1, k, 0, lk, rfl, by go_num, rfl, Nat.le_refl _, Nat.le_refl _, by (show rk _ _ _ _ = _; rw [HLK.out.1, List.drop_length]; rfl), by first | rfl | trivial⟩
          case round =>
            obtain ⟨z, f, dd, j, rfl, rfl, hz, hj, hfk, HR, hwq⟩ := hrel
            rename World => wq
            subst hwq
            have HOW : Hid (OwnZ wq W1.heap.size (.slice q k d) (fsZ acc)) := HO
            by_cases hj0 : j = 0
            · subst hj0
              obtain rfl : z = -1 := by omega
              have HR0 : Hid (rk (gf acc) x.nd.kids.reverse acc.length 0 = some (f, dd)) := by
                have h := HR.out
                rw [List.drop_zero, HLK.out.2] at h
                rw [← HL.out]; exact h
              have HRO := Lib.hid (ownZ_row HO.out (by rw [fsZ_length]; exact HL.out))
              have hsz := HW.out.size
              have HS1 := HB1.out.size
              have hle := rk_le HFO.out (Nat.le_refl k) (Nat.zero_le k) (show rk (gf acc) x.nd.kids.reverse k 0 = some (f, dd) by rw [HL.out]; exact HR0.out)
              have HLE := Lib.hid hle
              clear hle hz
              go_wp2_with (at_builtin; refine wpList_append_own _ rfl _ _ 24 rfl W1.heap.size 3 i0 (.int .i64 0) 1 8 Tryz.underlying24 hinf hz0 hz1 hz2 rfl (by decide) (.slice q k d) k _ rfl (HRO.out.alloc _) ⟨wq.heap.size, 0, none⟩ 1 1 [.int .i64 (f : Nat)] rfl rfl (cells_one_z _ _ _) (by simp [Value.oneCell']) (by have := HN4.out; simp only [maxLen]; omega) (by have := HN4.out; omega) (by simp; omega) ?_)
              intro v5 w5 hown5 hgrow5 _
              have hO5 : OwnZ w5 W1.heap.size v5 (fsZ acc ++ [(f : Int)]) := ownZ_appended (by rw [fsZ_length]; exact HL.out) hown5
              obtain ⟨q5, d5, e5, _⟩ := ownZ_form hO5
              rw [List.length_append, fsZ_length, ← HL.out] at e5
              obtain rfl : v5 = .slice q5 (k + 1) d5 := e5
              have HO5 : Hid (OwnZ w5 W1.heap.size (.slice q5 (k + 1) d5) (fsZ (acc ++ [(f, dd + 1)]))) := by show OwnZ _ _ _ _; rw [fsZ_snoc]; exact hO5
              have HB5 : Hid (Below W1.heap.size W1 w5) := (HW.out.alloc HW.out.size _).grown hgrow5 (by simp; omega) (fun g hg => (HRO.out.lt g hg).1)
              clear hown5 hgrow5 hO5 hsz HS1
              go_wp2
              go_roundw
              case rel => exact ⟨k + 1, q5, d5, acc ++ [(f, dd + 1)], by omega, rfl, by go_num, (by show _ = _; rw [List.length_append, ← HL.out]; rfl), fok_snoc HL.out HFO.out HLE.out.1 HLE.out.2, (by show _ = _; rw [HG.out, HGS.out, ordG_cons HR0.out]), HO5.out, HB5.out⟩
              case measure => simp [intOf] <;> omega
            · obtain ⟨jj, rfl⟩ : ∃ m, j = m + 1 := ⟨j - 1, by omega⟩
              obtain rfl : z = (jj : Nat) := by omega
              have hjjI : (jj : Int) < lk := by omega
              have hjx : jj < ks.length := by have := HLK.out.1; omega
              obtain ⟨b2, o2, rfl, ck2⟩ := slz_at HKZ.out hjx
              have HBAD : Hid (f = 0 ∨ gz ks jj ≠ (f : Int) - 1 → ordT (nds xs) = none) := fun hb => by
                have h1 := rk_bad hjx HR.out hb
                have h2 : ordG (nds xs) [] = none := by
                  rw [HG.out, HGS.out]
                  refine ordG_none ?_
                  rw [← HL.out, ← HLK.out.2]; exact h1
                unfold ordT
                rw [if_neg (by have := HN4.out; have := HN.out; rw [nds_length]; omega), h2]
              have HGOOD : Hid (f ≠ 0 → gz ks jj = (f : Int) - 1 → rk (gf acc) (ks.drop jj).reverse k 0 = some ((gf acc (f - 1)).1, max dd (gf acc (f - 1)).2)) := fun h0 hb => rk_good hjx HR.out h0 hb
              obtain ⟨x2, hx2⟩ : ∃ y, y = gz ks jj := ⟨_, rfl⟩
              rw [← hx2] at ck2 HBAD HGOOD
              have hwj : IntKind.i64.wrap ((jj : Int) - 1) = (jj : Int) - 1 := by rw [IntKind.wrap_i64]; omega
              have hwf : IntKind.i64.wrap ((f : Int) - 1) = (f : Int) - 1 := by have := HN4.out; rw [IntKind.wrap_i64]; omega
              clear hx2 hjx hz
              by_cases hxf : x2 = (f : Int) - 1
              · by_cases hf0 : f = 0
                · have e2 : ((f : Int) == 0) = true := by rw [hf0]; rfl
                  have e1 : (x2 != (f : Int) - 1) = false := by simp [hxf]
                  have HZ := Lib.hid (HBAD.out (.inl hf0))
                  clear hf0 hxf
                  go_wp2
                  refine bodyPost_ret (v := .tuple #[.slice none 0 0, .bool false]) (by simp [results, Tryz.results43, go_sem]) rfl ⟨HB1.out.trans (HW.out.mono HB1.out.size), .inl ⟨HZ.out, _, _, _, rfl⟩⟩
                · obtain ⟨f1, rfl⟩ : ∃ m, f = m + 1 := ⟨f - 1, by omega⟩
                  obtain rfl : x2 = (f1 : Nat) := by omega
                  have e2 : (((f1 + 1 : Nat) : Int) == 0) = false := by simp; omega
                  have e1 : (((f1 : Nat) : Int) != ((f1 + 1 : Nat) : Int) - 1) = false := by simp
                  have hf1k : (f1 : Int) < k := by omega
                  have hr2 := HGOOD.out (by omega) (by omega)
                  rw [show f1 + 1 - 1 = f1 by omega] at hr2
                  have HR2 := Lib.hid hr2
                  obtain ⟨g, hqg, _, cg, _, _⟩ := ownZ_at HOW.out (by rw [fsZ_length]; exact HL.out) (show f1 < k by omega)
                  rw [fsZ_at (by have := HL.out; omega)] at cg
                  have hle2 := (HFO.out f1 (by omega)).1
                  obtain ⟨f2, hf2⟩ : ∃ m, m = (gf acc f1).1 := ⟨_, rfl⟩
                  rw [← hf2] at cg hle2 HR2
                  subst hqg
                  clear hf2 hr2 HGOOD HBAD hxf hf0
                  go_wp2
                  go_roundw
                  case rel => exact ⟨(jj : Int) - 1, f2, _, jj, rfl, by go_num, rfl, by omega, by omega, HR2.out, by first | rfl | trivial⟩
                  case measure => simp [intOf] <;> omega
              · have e1 : (x2 != (f : Int) - 1) = true := by simpa using hxf
                have HZ := Lib.hid (HBAD.out (.inr hxf))
                clear hxf
                go_wp2
                refine bodyPost_ret (v := .tuple #[.slice none 0 0, .bool false]) (by simp [results, Tryz.results43, go_sem]) rfl ⟨HB1.out.trans (HW.out.mono HB1.out.size), .inl ⟨HZ.out, _, _, _, rfl⟩⟩
        · obtain rfl : k = n := by omega
          have hkI : (k : Int) ≤ k := by omega
          obtain ⟨j, hj⟩ : ∃ j, j = k - 1 := ⟨_, rfl⟩
          have hjk : j < k := by have := HN4.out; omega
          obtain ⟨g, hqg, _, cg, _, _⟩ := ownZ_at HO.out (by rw [fsZ_length]; exact HL.out) hjk
          rw [fsZ_at (by have := HL.out; omega)] at cg
          have hjI : (k : Int) - 1 = (j : Nat) := by have := HN4.out; omega
          have hjkI : (j : Int) < k := by omega
          have h1I : (1 : Int) ≤ k := by have := HN4.out; omega
          have HOR : Hid (ordT (nds xs) = if (gf acc j).1 = 0 then some acc else none) := by
            show _ = _
            have h := HG.out
            rw [HN.out, ← nds_length, List.drop_length] at h
            unfold ordT
            rw [if_neg (by have := HN4.out; have := HN.out; rw [nds_length]; omega), h, show (nds xs).length - 1 = j by rw [nds_length, ← HN.out]; exact hj.symm]
            rfl
          obtain ⟨f2, hf2⟩ : ∃ m, m = (gf acc j).1 := ⟨_, rfl⟩
          rw [← hf2] at cg HOR
          subst hqg
          have HO9 : Hid (OwnZ wr W1.heap.size (.slice (some ⟨g, 0, none⟩) k d) (fsZ acc)) := HO
          clear hf2 hj
          by_cases hf0 : f2 = 0
          · have e1 : ((f2 : Int) == 0) = true := by rw [hf0]; rfl
            have HZ : Hid (ordT (nds xs) = some acc) := by show _ = _; rw [HOR.out, if_pos hf0]
            clear hf0
            go_wp2
            go_quiet (fail)
            go_wp2
            refine bodyPost_ret (v := .tuple #[.slice (some ⟨g, 0, none⟩) k d, .bool true]) (by simp [results, Tryz.results43, go_sem]) rfl ?_
            exact ⟨HB1.out.trans ((HW.out.trans ((drewN_below wr nq).mono HW.out.size)).mono HB1.out.size), .inr ⟨acc, _, _, HZ.out, HL.out, rfl, ownZ_down (ownZ_below HO9.out (drewN_below wr nq)) HB1.out.size⟩⟩
          · have e1 : ((f2 : Int) == 0) = false := by simpa using hf0
            have HZ : Hid (ordT (nds xs) = none) := by show _ = _; rw [HOR.out, if_neg hf0]
            clear hf0
            go_wp2
            go_quiet (fail)
            go_wp2
            refine bodyPost_ret (v := .tuple #[.slice (some ⟨g, 0, none⟩) k d, .bool false]) (by simp [results, Tryz.results43, go_sem]) rfl ?_
            exact ⟨HB1.out.trans ((HW.out.trans ((drewN_below wr nq).mono HW.out.size)).mono HB1.out.size), .inl ⟨HZ.out, _, _, _, rfl⟩⟩
end Go.Proofs.YtjpccmiaimkmbaaGreat


namespace Go.Proofs.YtjpccmiaimkmbaaGreat
open Go.RowKit Tnr Tnt

def supD (F : Nat → Nat × Nat) : List Int → Nat
  | [] => 0
  | k :: ks => max (F k.toNat).2 (supD F ks)
theorem supD_append (F : Nat → Nat × Nat) : ∀ a b : List Int, supD F (a ++ b) = max (supD F a) (supD F b)
  | [], b => by simp [supD]
  | k :: a, b => by simp only [List.cons_append, supD, supD_append F a b]; omega
theorem supD_reverse (F : Nat → Nat × Nat) : ∀ a : List Int, supD F a.reverse = supD F a
  | [] => rfl
  | k :: a => by rw [List.reverse_cons, supD_append, supD_reverse F a]; simp only [supD]; omega
theorem rk_sup {F : Nat → Nat × Nat} : ∀ {ks : List Int} {c d a e : Nat}, rk F ks c d = some (a, e) → e = max d (supD F ks)
  | [], c, d, a, e, h => by
    simp only [rk, Option.some.injEq, Prod.mk.injEq] at h
    simp only [supD]; omega
  | k :: ks, c, d, a, e, h => by
    rw [rk_cons] at h
    by_cases hc : c = 0 ∨ k ≠ (c : Int) - 1
    · rw [if_pos hc] at h; cases h
    · rw [if_neg hc] at h
      have := rk_sup h
      simp only [supD, show k.toNat = c - 1 by omega]; omega
theorem ord_sup {L : List Nd} {l : List (Nat × Nat)} (h : OrdOk L l) {i : Nat} (hi : i < L.length) : (gf l i).2 = supD (gf l) L[i].kids + 1 := by
  obtain ⟨d, h1, h2⟩ := h.2.2 i hi
  have := rk_sup h1
  rw [supD_reverse] at this
  omega
theorem supD_take {F : Nat → Nat × Nat} {ks : List Int} {j : Nat} (h : j < ks.length) : supD F (ks.take (j + 1)) = max (supD F (ks.take j)) (F (gz ks j).toNat).2 := by
  rw [gz_take h, supD_append]; simp [supD]
theorem dsZ_take {l : List (Nat × Nat)} {k : Nat} (h : k < l.length) : dsZ (l.take (k + 1)) = dsZ (l.take k) ++ [((gf l k).2 : Int)] := by
  unfold dsZ gf
  rw [List.take_add_one, List.map_append, List.getElem?_eq_getElem h, List.getD_eq_getElem?_getD, List.getElem?_eq_getElem h]; rfl
theorem gf_take {l : List (Nat × Nat)} {k i : Nat} (h : i < k) (_hk : k ≤ l.length) : gf (l.take k) i = gf l i := by
  unfold gf
  rw [List.getD_eq_getElem?_getD, List.getD_eq_getElem?_getD, List.getElem?_take_of_lt h]
theorem nds_get {xs : List NV} {k : Nat} (h : k < xs.length) : (nds xs)[k]'(by rw [nds_length]; exact h) = (gn xs k).nd := by unfold nds; rw [gn_get h]; simp
set_option maxRecDepth 100000 in
theorem rorder_any (p : Option Addr) (n c : Nat) (xs : List NV) (names : Value) (w : World) (hn : n = xs.length) (hnm : n ≤ 1000000000) (hp : SlN w p xs) (hf : Few xs) :
    Calls Tryz.prog 45 #[.agg #[.slice p n c, names]] w fun e w' => e = .returned (.bool (ordT (nds xs)).isSome) ∧ Below w.heap.size w w' := by
  obtain ⟨W1, hW1⟩ : ∃ W, W = w.alloc (.cells #[.slice p n c, names] 34) := ⟨_, rfl⟩
  have hb1 : Below w.heap.size w W1 := by rw [hW1]; exact bl_alloc _ _
  have HO := Lib.hid (rfirsts_any p n c xs names W1 hn hnm (hp.below hb1) hf)
  have HB1 := Lib.hid hb1
  have HW1 := Lib.hid hW1
  clear hb1 hW1 hn hnm hp hf
  go_enter Tryz.func45, Tryz.ntmps45
  go_wp2_with fail
  rw [← HW1.out]
  refine (HO.out).mono ?_
  rintro e w2 ⟨hb2, ⟨ho, a, m, d, rfl⟩ | ⟨l, pf, cf, ho, hl, rfl, hown⟩⟩
  · have HB2 := Lib.hid (HB1.out.trans (hb2.mono HB1.out.size))
    have HE : Hid ((ordT (nds xs)).isSome = false) := by show _ = _; rw [ho]; rfl
    clear hb2 ho
    go_wp2
    go_ret
    exact ⟨by rw [HE.out]; rfl, HB2.out⟩
  · have HB2 := Lib.hid (HB1.out.trans (hb2.mono HB1.out.size))
    have HE : Hid ((ordT (nds xs)).isSome = true) := by show _ = _; rw [ho]; rfl
    clear hb2 ho hown hl
    go_wp2
    go_ret
    exact ⟨by rw [HE.out]; rfl, HB2.out⟩
set_option maxHeartbeats 3200000 in
set_option maxRecDepth 100000 in
theorem rdeeps_any (p : Option Addr) (n c : Nat) (xs : List NV) (names : Value) (l : List (Nat × Nat)) (w : World) (hn : n = xs.length) (hp : SlN w p xs) (hf : Few xs) (ho : ordT (nds xs) = some l) :
    Calls Tryz.prog 101 #[.agg #[.slice p n c, names]] w fun e w' => ∃ q d, e = .returned (.slice q n d) ∧ OwnZ w' w.heap.size (.slice q n d) (dsZ l) ∧ Below w.heap.size w w' := by
  obtain ⟨i0, hinf, hz0, hz1, hz2⟩ := info_parts info_intz
  obtain ⟨W1, hW1⟩ : ∃ W, W = w.alloc (.cells #[.slice p n c, names] 34) := ⟨_, rfl⟩
  have hb1 : Below w.heap.size w W1 := by rw [hW1]; exact bl_alloc _ _
  have hT : Bx W1 w.heap.size 34 #[.slice p n c, names] := by rw [hW1]; exact Bx.new _ _ _
  obtain ⟨b0, hb0⟩ : ∃ b, b = w.heap.size := ⟨_, rfl⟩
  rw [← hb0] at hT
  obtain ⟨hok, _, hn1, hn4⟩ := ordT_ok ho
  rw [nds_length, ← hn] at hn1 hn4
  have HP := Lib.hid (hp.below hb1)
  have HN := Lib.hid hn
  have HF := Lib.hid hf
  have HT := Lib.hid hT
  have HB1 := Lib.hid hb1
  have HW1 := Lib.hid (And.intro hW1 hb0)
  have HOK := Lib.hid hok
  have HN4 := Lib.hid (And.intro hn1 hn4)
  have HLL : Hid (l.length = n) := by show _ = _; rw [hok.1, nds_length]; exact hn.symm
  have hnI : (n : Int) ≤ 4000 := by omega
  clear hp hn hf hb1 hT hW1 hb0 hok ho hn1 hn4
  go_enter Tryz.func101, Tryz.ntmps101
  go_wp2_with fail
  rw [← HW1.out.2, show w.alloc (.cells #[.slice p n c, names] 34) = W1 from HW1.out.1.symm]
  go_wp2
  go_loopw [3, 4] (fun ov iv wr => ∃ (k : Nat) (q : Option Addr) (d : Nat), k ≤ n ∧ ov = .slice q k d ∧ iv = .int .i64 (k : Nat) ∧ Hid (OwnZ wr W1.heap.size (.slice q k d) (dsZ (l.take k))) ∧ Hid (Below W1.heap.size W1 wr)) (fun _ iv _ => n - (intOf iv).toNat)
  case atStart => exact ⟨0, none, 0, Nat.zero_le _, rfl, rfl, ownZ_nil _ _, Below.refl _ _⟩
  case round =>
    obtain ⟨k, q, d, hk, rfl, rfl, HO, HW⟩ := hrel
    rename World => wr
    have hTr := HT.out.below HW.out
    have cT0 : wr.cell? ⟨b0, 0, none⟩ = some (.slice p n c) := hTr.cell rfl
    have HLK : Hid ((l.take k).length = k) := by show _ = _; rw [List.length_take, HLL.out]; omega
    clear hTr
    by_cases hkn : k < n
    · have hkI : (k : Int) < n := by omega
      have hkx : k < xs.length := by have := HN.out; omega
      obtain ⟨b, o, rfl, hcells, hin⟩ := (HP.out.below HW.out).at hkx
      have hkk : ∀ z ∈ (gn xs k).nd.kids, 0 ≤ z ∧ z < (k : Int) := by
        have h := ordOk_kid HOK.out (show k < (nds xs).length by rw [nds_length]; exact hkx)
        rw [nds_get hkx] at h
        exact h
      have hsup := ord_sup HOK.out (show k < (nds xs).length by rw [nds_length]; exact hkx)
      rw [nds_get hkx] at hsup
      have hfew := HF.out _ (gn_mem hkx)
      obtain ⟨x, hx⟩ : ∃ x, x = gn xs k := ⟨_, rfl⟩
      rw [← hx] at hcells hin hfew hkk hsup
      obtain ⟨ks, hks⟩ : ∃ l, l = x.nd.kids := ⟨_, rfl⟩
      obtain ⟨pk, hpk⟩ : ∃ q, q = x.pk := ⟨_, rfl⟩
      obtain ⟨ck, hck⟩ : ∃ q, q = x.ck := ⟨_, rfl⟩
      have ckk := hcells.2.2.1
      have hkz := hin.kids
      rw [← hks, ← hpk, ← hck] at ckk
      rw [← hks, ← hpk] at hkz
      rw [← hks] at hfew hkk hsup
      obtain ⟨lk, hlk⟩ : ∃ m, m = ks.length := ⟨_, rfl⟩
      rw [← hlk] at ckk hfew
      have HKZ := Lib.hid hkz
      have HLEN := Lib.hid hlk
      have HKK := Lib.hid hkk
      have HSUP := Lib.hid hsup
      have HFOK : Hid (FOk (gf l) n) := by show FOk _ _; have h := HOK.out.2.1; rw [nds_length, ← HN.out] at h; exact h
      have hlkI : (lk : Int) ≤ 1000000 := by omega
      clear hx hcells hin hfew hkz hlk hks hkx hpk hck hkk hsup
      go_wp2
      go_loopw [5, 6] (fun nv jv wq => ∃ (m j : Nat), nv = .int .i64 (m : Nat) ∧ jv = .int .i64 (j : Nat) ∧ j ≤ lk ∧ Hid (m = supD (gf l) (ks.take j)) ∧ wq = wr) (fun _ jv _ => lk - (intOf jv).toNat)
      case atStart => exact ⟨0, 0, rfl, rfl, Nat.zero_le _, rfl, by first | rfl | trivial⟩
      case round =>
        obtain ⟨m, j, rfl, rfl, hj, HM, hwq⟩ := hrel
        rename World => wq
        subst hwq
        by_cases hjl : j < lk
        · have hjI : (j : Int) < lk := by omega
          have hjx : j < ks.length := by have := HLEN.out; omega
          obtain ⟨b2, o2, rfl, ck2⟩ := slz_at HKZ.out hjx
          have hzk := HKK.out (gz ks j) (by rw [gz_get hjx]; exact List.getElem_mem hjx)
          have hst := supD_take (F := gf l) hjx
          obtain ⟨zz, hzz⟩ : ∃ y, y = gz ks j := ⟨_, rfl⟩
          rw [← hzz] at ck2 hzk hst
          obtain ⟨zn, rfl⟩ : ∃ y : Nat, zz = (y : Int) := ⟨zz.toNat, by omega⟩
          have hznk : (zn : Int) < k := by omega
          obtain ⟨g, hqg, _, cg, _, _⟩ := ownZ_at HO.out (by rw [dsZ_length]; exact HLK.out.symm) (show zn < k by omega)
          rw [dsZ_at (by rw [HLK.out]; omega), gf_take (show zn < k by omega) (by rw [HLL.out]; omega)] at cg
          rw [Int.toNat_natCast, ← HM.out] at hst
          obtain ⟨d2, hd2⟩ : ∃ y, y = (gf l zn).2 := ⟨_, rfl⟩
          have hd4 := (HFOK.out zn (by omega)).2
          rw [← hd2] at cg hst hd4
          have HST := Lib.hid hst
          subst hqg
          clear hzz hzk hst hd2 hjx
          go_wp2
          go_roundw
          case rel => exact ⟨max m d2, j + 1, by go_num, by go_num, by omega, by (show _ = _; rw [HST.out]), by first | rfl | trivial⟩
          case measure => simp [intOf] <;> omega
        · obtain rfl : j = lk := by omega
          have hjI : (j : Int) ≤ j := by omega
          have HM2 : Hid ((gf l k).2 = m + 1) := by
            show _ = _
            have h := HM.out
            rw [HLEN.out, List.take_length] at h
            rw [HSUP.out, ← h]
          have hd4 := (HFOK.out k (by omega)).2
          have hm4 : m ≤ k := by have := HM2.out; omega
          have HM4 := Lib.hid hm4
          have hwm : IntKind.i64.wrap ((m : Int) + 1) = ((m + 1 : Nat) : Int) := by rw [IntKind.wrap_i64]; omega
          have HRO := Lib.hid (ownZ_row HO.out (by rw [dsZ_length]; exact HLK.out.symm))
          have hsz := HW.out.size
          clear hm4 hd4
          go_wp2_with (at_builtin; refine wpList_append_own _ rfl _ _ 24 rfl W1.heap.size 3 i0 (.int .i64 0) 1 8 Tryz.underlying24 hinf hz0 hz1 hz2 rfl (by decide) (.slice q k d) k _ rfl (HRO.out.alloc _) ⟨wq.heap.size, 0, none⟩ 1 1 [.int .i64 ((m + 1 : Nat) : Int)] rfl rfl (cells_one_z _ _ _) (by simp [Value.oneCell']) (by have := HN4.out; simp only [maxLen]; omega) (by have := HN4.out; omega) (by simp; omega) ?_)
          intro v5 w5 hown5 hgrow5 _
          have hO5 : OwnZ w5 W1.heap.size v5 (dsZ (l.take k) ++ [((m + 1 : Nat) : Int)]) := ownZ_appended (by rw [dsZ_length]; exact HLK.out.symm) hown5
          obtain ⟨q5, d5, e5, _⟩ := ownZ_form hO5
          rw [List.length_append, dsZ_length, HLK.out] at e5
          obtain rfl : v5 = .slice q5 (k + 1) d5 := e5
          have HO5 : Hid (OwnZ w5 W1.heap.size (.slice q5 (k + 1) d5) (dsZ (l.take (k + 1)))) := by show OwnZ _ _ _ _; rw [dsZ_take (by rw [HLL.out]; omega), HM2.out]; exact hO5
          have HB5 : Hid (Below W1.heap.size W1 w5) := (HW.out.alloc HW.out.size _).grown hgrow5 (by simp; omega) (fun g hg => (HRO.out.lt g hg).1)
          clear hown5 hgrow5 hO5 hsz
          go_wp2
          go_roundw
          case rel => exact ⟨k + 1, q5, d5, by omega, rfl, by go_num, HO5.out, HB5.out⟩
          case measure => simp [intOf] <;> omega
    · obtain rfl : k = n := by omega
      have hkI : (k : Int) ≤ k := by omega
      go_wp2
      go_ret
      rw [List.take_of_length_le (by rw [HLL.out]; exact Nat.le_refl _)] at HO
      exact ⟨_, _, rfl, ownZ_down HO.out HB1.out.size, HB1.out.trans (HW.out.mono HB1.out.size)⟩
set_option maxHeartbeats 1600000 in
set_option maxRecDepth 100000 in
theorem rdeep_any (p : Option Addr) (n c : Nat) (xs : List NV) (names : Value) (w : World) (hn : n = xs.length) (hnm : n ≤ 1000000000) (hp : SlN w p xs) (hf : Few xs) :
    Calls Tryz.prog 54 #[.agg #[.slice p n c, names]] w fun e w' => e = .returned (.int .i64 (deepT (nds xs) : Nat)) ∧ Below w.heap.size w w' := by
  obtain ⟨W1, hW1⟩ : ∃ W, W = w.alloc (.cells #[.slice p n c, names] 34) := ⟨_, rfl⟩
  have hb1 : Below w.heap.size w W1 := by rw [hW1]; exact bl_alloc _ _
  have hT : Bx W1 w.heap.size 34 #[.slice p n c, names] := by rw [hW1]; exact Bx.new _ _ _
  obtain ⟨b0, hb0⟩ : ∃ b, b = w.heap.size := ⟨_, rfl⟩
  rw [← hb0] at hT
  have HO := Lib.hid (rorder_any p n c xs names W1 hn hnm (hp.below hb1) hf)
  have HP := Lib.hid (hp.below hb1)
  have HN := Lib.hid (And.intro hn hf)
  have HT := Lib.hid hT
  have HB1 := Lib.hid hb1
  have HW1 := Lib.hid (And.intro hW1 hb0)
  have cT0 : W1.cell? ⟨b0, 0, none⟩ = some (.slice p n c) := hT.cell rfl
  have cT1 : W1.cell? ⟨b0, 1, none⟩ = some names := hT.cell rfl
  clear hp hn hf hnm hb1 hT hW1 hb0
  go_enter Tryz.func54, Tryz.ntmps54
  go_wp2_with fail
  rw [← HW1.out.2, show w.alloc (.cells #[.slice p n c, names] 34) = W1 from HW1.out.1.symm]
  cases ho : ordT (nds xs) with
  | none =>
    have HZ : Hid (deepT (nds xs) = 0) := by show _ = _; unfold deepT; rw [ho]
    rw [ho] at HO
    clear ho
    go_wp2_with fail
    refine (HO.out).mono ?_
    rintro e w2 ⟨rfl, hb2⟩
    have HB2 := Lib.hid (HB1.out.trans (hb2.mono HB1.out.size))
    clear hb2
    go_wp2
    go_ret
    exact ⟨by rw [HZ.out]; rfl, HB2.out⟩
  | some l =>
    have HZ : Hid (deepT (nds xs) = (gf l (n - 1)).2) := by show _ = _; unfold deepT; rw [ho, nds_length, ← HN.out.1]
    have HOO := Lib.hid ho
    rw [ho] at HO
    clear ho
    go_wp2_with fail
    refine (HO.out).mono ?_
    rintro e w2 ⟨rfl, hb2⟩
    have hT2 := HT.out.below hb2
    have cT0 : w2.cell? ⟨b0, 0, none⟩ = some (.slice p n c) := hT2.cell rfl
    have cT1 : w2.cell? ⟨b0, 1, none⟩ = some names := hT2.cell rfl
    have HB2 := Lib.hid (HB1.out.trans (hb2.mono HB1.out.size))
    have HD := Lib.hid (rdeeps_any p n c xs names l w2 HN.out.1 (HP.out.below hb2) HN.out.2 HOO.out)
    clear hb2 hT2
    go_wp2_with fail
    refine (HD.out).mono ?_
    rintro e w3 ⟨q, d, rfl, ho3, hb3⟩
    obtain ⟨hok, _, h1, h4⟩ := ordT_ok HOO.out
    rw [nds_length, ← HN.out.1] at h1 h4
    have hll : l.length = n := by rw [hok.1, nds_length]; exact HN.out.1.symm
    obtain ⟨j, hj⟩ : ∃ j, j = n - 1 := ⟨_, rfl⟩
    obtain ⟨g, rfl, _, cg, _, _⟩ := ownZ_at ho3 (by rw [dsZ_length]; exact hll.symm) (show j < n by omega)
    rw [dsZ_at (by omega)] at cg
    rw [← hj] at HZ
    obtain ⟨d2, hd2⟩ : ∃ y, y = (gf l j).2 := ⟨_, rfl⟩
    rw [← hd2] at cg HZ
    have hjI : (n : Int) - 1 = (j : Nat) := by omega
    have hjk : (j : Int) < n := by omega
    have hnI : (n : Int) ≤ 4000 := by omega
    have h1I : (1 : Int) ≤ n := by omega
    have HB3 := Lib.hid (HB2.out.trans (hb3.mono HB2.out.size))
    clear hok h1 h4 hll hj hd2 ho3 hb3
    go_wp2
    go_ret
    exact ⟨by rw [HZ.out]; rfl, HB3.out⟩
set_option maxHeartbeats 1600000 in
set_option maxRecDepth 100000 in
theorem rbare_any (x : NV) (w : World) : Calls Tryz.prog 152 #[.agg (encN x).toArray] w fun e w' => e = .returned (.bool (bareB x.nd)) ∧ Below w.heap.size w w' := by
  obtain ⟨ls, lk, hls, _, h⟩ := node_lit2 x
  unfold NodeLit at h
  rw [h]
  have hX := Bx.new w 28 #[.int .u8 x.nd.kind, .slice x.ps ls x.cs, .slice x.pk lk x.ck, .int .i64 x.nd.group, .int .i64 x.nd.mn, .int .i64 x.nd.mx, .int .u8 x.nd.mode, .int .u8 x.nd.spot, .bool x.nd.neg]
  obtain ⟨_, c1, _, c3, c4, c5, c6, c7, c8⟩ := nine hX
  have HE : Hid (bareB x.nd = (x.nd.set.length == 0 && (x.nd.group == 0 && (x.nd.mn == 0 && (x.nd.mx == 0 && (x.nd.mode == 0 && (x.nd.spot == 0 && !x.nd.neg))))))) := rfl
  rw [← hls] at HE
  obtain ⟨gr, hgr⟩ : ∃ z, z = x.nd.group := ⟨_, rfl⟩
  obtain ⟨mn, hmn⟩ : ∃ z, z = x.nd.mn := ⟨_, rfl⟩
  obtain ⟨mx, hmx⟩ : ∃ z, z = x.nd.mx := ⟨_, rfl⟩
  obtain ⟨md, hmd⟩ : ∃ z, z = x.nd.mode := ⟨_, rfl⟩
  obtain ⟨sp, hsp⟩ : ∃ z, z = x.nd.spot := ⟨_, rfl⟩
  obtain ⟨ng, hng⟩ : ∃ z, z = x.nd.neg := ⟨_, rfl⟩
  rw [← hgr, ← hmn, ← hmx, ← hmd, ← hsp, ← hng] at HE
  rw [← hgr, ← hmn, ← hmx, ← hmd, ← hsp, ← hng] at c1 c3 c4 c5 c6 c7 c8
  rw [← hgr, ← hmn, ← hmx, ← hmd, ← hsp, ← hng]
  clear h hX hgr hmn hmx hmd hsp hng hls
  by_cases h0 : ls = 0
  · have e0 : ((ls : Int) == 0) = true := by simpa using h0
    by_cases h1 : gr = 0
    · have e1 : (gr == 0) = true := by simpa using h1
      by_cases h2 : mn = 0
      · have e2 : (mn == 0) = true := by simpa using h2
        by_cases h3 : mx = 0
        · have e3 : (mx == 0) = true := by simpa using h3
          by_cases h4 : md = 0
          · have e4 : (md == 0) = true := by simpa using h4
            by_cases h5 : sp = 0
            · have e5 : (sp == 0) = true := by simpa using h5
              cases ng with
              | true =>
                have HF : Hid (bareB x.nd = false) := by show _ = _; rw [HE.out]; simp [h0, h1, h2, h3, h4, h5]
                go_enter Tryz.func152, Tryz.ntmps152
                go_wp2
                go_ret
                exact ⟨by rw [HF.out]; rfl, bl_alloc _ _⟩
              | false =>
                have HF : Hid (bareB x.nd = true) := by show _ = _; rw [HE.out]; simp [h0, h1, h2, h3, h4, h5]
                go_enter Tryz.func152, Tryz.ntmps152
                go_wp2
                go_ret
                exact ⟨by rw [HF.out]; rfl, bl_alloc _ _⟩
            · have e5 : (sp == 0) = false := by simpa using h5
              have HF : Hid (bareB x.nd = false) := by show _ = _; rw [HE.out]; simp [h0, h1, h2, h3, h4, h5]
              go_enter Tryz.func152, Tryz.ntmps152
              go_wp2
              go_ret
              exact ⟨by rw [HF.out]; rfl, bl_alloc _ _⟩
          · have e4 : (md == 0) = false := by simpa using h4
            have HF : Hid (bareB x.nd = false) := by show _ = _; rw [HE.out]; simp [h0, h1, h2, h3, h4]
            go_enter Tryz.func152, Tryz.ntmps152
            go_wp2
            go_ret
            exact ⟨by rw [HF.out]; rfl, bl_alloc _ _⟩
        · have e3 : (mx == 0) = false := by simpa using h3
          have HF : Hid (bareB x.nd = false) := by show _ = _; rw [HE.out]; simp [h0, h1, h2, h3]
          go_enter Tryz.func152, Tryz.ntmps152
          go_wp2
          go_ret
          exact ⟨by rw [HF.out]; rfl, bl_alloc _ _⟩
      · have e2 : (mn == 0) = false := by simpa using h2
        have HF : Hid (bareB x.nd = false) := by show _ = _; rw [HE.out]; simp [h0, h1, h2]
        go_enter Tryz.func152, Tryz.ntmps152
        go_wp2
        go_ret
        exact ⟨by rw [HF.out]; rfl, bl_alloc _ _⟩
    · have e1 : (gr == 0) = false := by simpa using h1
      have HF : Hid (bareB x.nd = false) := by show _ = _; rw [HE.out]; simp [h0, h1]
      go_enter Tryz.func152, Tryz.ntmps152
      go_wp2
      go_ret
      exact ⟨by rw [HF.out]; rfl, bl_alloc _ _⟩
  · have e0 : ((ls : Int) == 0) = false := by simpa using h0
    have HF : Hid (bareB x.nd = false) := by show _ = _; rw [HE.out]; simp [h0]
    go_enter Tryz.func152, Tryz.ntmps152
    go_wp2
    go_ret
    exact ⟨by rw [HF.out]; rfl, bl_alloc _ _⟩
end Go.Proofs.YtjpccmiaimkmbaaGreat

