import Derived.Test.YtkefndfgkmdphaaGreatFi
import Derived.Test.YtkefndfgkmdphaaGreatLf

namespace Go.Proofs.YtkefndfgkmdphaaGreat
set_option maxHeartbeats 3200000
set_option maxRecDepth 100000
open Go.RowKit Tnr Tnt

theorem three {w : World} {b : Nat} {T : TypeId} {c0 c1 c2 : Value} (h : Bx w b T #[c0, c1, c2]) : w.cell? ⟨b, 0, none⟩ = some c0 ∧ w.cell? ⟨b, 1, none⟩ = some c1 ∧ w.cell? ⟨b, 2, none⟩ = some c2 := ⟨h.cell rfl, h.cell rfl, h.cell rfl⟩
theorem ordG_cons {n : Nd} {ns : List Nd} {acc : List (Nat × Nat)} {f d : Nat} (h : rk (gf acc) n.kids.reverse acc.length 0 = some (f, d)) : ordG (n :: ns) acc = ordG ns (acc ++ [(f, d + 1)]) := by
 simp only [ordG, h]
theorem ordG_none {n : Nd} {ns : List Nd} {acc : List (Nat × Nat)} (h : rk (gf acc) n.kids.reverse acc.length 0 = none) : ordG (n :: ns) acc = none := by
 simp only [ordG, h]
theorem gf_snoc_lt {l : List (Nat × Nat)} {x : Nat × Nat} {i : Nat} (h : i < l.length) : gf (l ++ [x]) i = gf l i := by
 unfold gf
 rw [List.getD_eq_getElem?_getD, List.getD_eq_getElem?_getD, List.getElem?_append_left h]
theorem gf_snoc_eq {l : List (Nat × Nat)} {x : Nat × Nat} : gf (l ++ [x]) l.length = x := by
 unfold gf
 rw [List.getD_eq_getElem?_getD, List.getElem?_append_right (Nat.le_refl _)]; simp
theorem fok_snoc {l : List (Nat × Nat)} {f d k : Nat} (hk : k = l.length) (h : FOk (gf l) k) (hf : f ≤ k) (hd : d ≤ k) : FOk (gf (l ++ [(f, d + 1)])) (k + 1) := by
 subst hk
 intro j hj
 by_cases e : j < l.length
 ·rw [gf_snoc_lt e]; exact h j e
 ·have : j = l.length := by omega
  subst this
  rw [gf_snoc_eq]; exact ⟨hf, by show d + 1 ≤ _; omega⟩
def nds (xs : List NV) : List Nd := xs.map NV.nd
theorem nds_length (xs : List NV) : (nds xs).length = xs.length := by simp [nds]
theorem nds_drop {xs : List NV} {k : Nat} (h : k < xs.length) : (nds xs).drop k = (gn xs k).nd :: (nds xs).drop (k + 1) := by
 unfold nds
 rw [← List.map_drop, drop_gn h, List.map_cons, List.map_drop]
def Few (xs : List NV) : Prop := ∀ x ∈ xs, x.nd.kids.length ≤ 1000000 ∧ x.nd.set.length ≤ 1000000
def OrdPost (p : Option Addr) (n c : Nat) (xs : List NV) (w : World) (e : Ending) (w' : World) : Prop :=
 Below w.heap.size w w' ∧ ((ordT (nds xs) = none ∧ ∃ a0 n0 c0 a1 n1 c1 a2 n2 c2, e = .returned (.tuple #[.agg #[.slice a0 n0 c0, .slice a1 n1 c1, .slice a2 n2 c2], .bool false])) ∨
  ∃ l pf cf pd cd, ordT (nds xs) = some l ∧ n = l.length ∧ FOk (gf l) n ∧ e = .returned (.tuple #[.agg #[.slice p n c, .slice pf n cf, .slice pd n cd], .bool true]) ∧ OwnZ w' w.heap.size (.slice pf n cf) (fsZ l) ∧ OwnZ w' w.heap.size (.slice pd n cd) (dsZ l))

theorem ordered_any (p : Option Addr) (n c : Nat) (xs : List NV) (names : Value) (w : World) (hn : n = xs.length) (hnm : n ≤ 1000000000) (hp : SlN w p xs) (hf : Few xs) :
  Calls Tryz.prog 42 #[.agg #[.slice p n c, names]] w (OrdPost p n c xs w) := by
 have HP := lh hp
 have HN := lh hn
 have HF := lh hf
 have hnI : (n : Int) ≤ 1000000000 := by omega
 clear hp hn hf
 by_cases hn0 : n = 0
 ·have hq : ((n : Int) == 0) = true := by rw [hn0]; rfl
  have HZ : Hid (ordT (nds xs) = none) := by
   show _ = none
   unfold ordT
   rw [if_pos (.inl (by rw [nds_length, ← HN.out]; exact hn0))]
  clear hn0
  go_enter Tryz.func42, Tryz.ntmps42
  go_wp2
  have hbr := three (Bx.new (w.alloc (.cells #[.slice p n c, names] 34)) 66 #[.slice none 0 0, .slice none 0 0, .slice none 0 0])
  rw [World.size_alloc] at hbr
  refine bodyPost_ret (v := .tuple #[.agg #[.slice none 0 0, .slice none 0 0, .slice none 0 0], .bool false]) (by simp [results, Tryz.results42, go_sem, hbr.1, hbr.2.1, hbr.2.2]) rfl ?_
  exact ⟨bl_trans (bl_alloc _ _) (bl_alloc _ _), .inl ⟨HZ.out, _, _, _, _, _, _, _, _, _, rfl⟩⟩
 ·have hq : ((n : Int) == 0) = false := by rw [beq_eq_false_iff_ne]; omega
  by_cases hn4 : 4000 < n
  ·have hg : (decide ((4000 : Int) < (n : Int))) = true := by rw [decide_eq_true_eq]; omega
   have HZ : Hid (ordT (nds xs) = none) := by
    show _ = none
    unfold ordT
    rw [if_pos (.inr (by rw [nds_length, ← HN.out]; exact hn4))]
   clear hn4 hn0
   go_enter Tryz.func42, Tryz.ntmps42
   go_wp2
   have hbr := three (Bx.new (w.alloc (.cells #[.slice p n c, names] 34)) 66 #[.slice none 0 0, .slice none 0 0, .slice none 0 0])
   rw [World.size_alloc] at hbr
   refine bodyPost_ret (v := .tuple #[.agg #[.slice none 0 0, .slice none 0 0, .slice none 0 0], .bool false]) (by simp [results, Tryz.results42, go_sem, hbr.1, hbr.2.1, hbr.2.2]) rfl ?_
   exact ⟨bl_trans (bl_alloc _ _) (bl_alloc _ _), .inl ⟨HZ.out, _, _, _, _, _, _, _, _, _, rfl⟩⟩
  ·have hg : (decide ((4000 : Int) < (n : Int))) = false := by rw [decide_eq_false_iff_not]; omega
   have HOT : Hid (ordT (nds xs) = match ordG (nds xs) [] with | none => none | some l => if (gf l (n - 1)).1 = 0 then some l else none) := by
    show _ = _
    unfold ordT
    rw [nds_length, ← HN.out, if_neg (by omega)]
    cases ordG (nds xs) [] <;> rfl
   obtain ⟨b0, hb0⟩ : ∃ b, b = w.heap.size := ⟨_, rfl⟩
   obtain ⟨W3, hW3⟩ : ∃ W, W = ((w.alloc (.cells #[.slice p n c, names] 34)).alloc (.cells #[.slice none 0 0, .slice none 0 0, .slice none 0 0] 66)).alloc (.cells #[.slice p n c, .slice none 0 0, .slice none 0 0] 66) := ⟨_, rfl⟩
   have hB3 : Below w.heap.size w W3 := by rw [hW3]; exact bl_trans (bl_trans (bl_alloc _ _) (bl_alloc _ _)) (bl_alloc _ _)
   have bR : Bx W3 (b0 + 1) 66 #[.slice none 0 0, .slice none 0 0, .slice none 0 0] := by
    have h := (Bx.new (w.alloc (.cells #[.slice p n c, names] 34)) 66 #[.slice none 0 0, .slice none 0 0, .slice none 0 0]).below (bl_alloc _ (.cells #[.slice p n c, .slice none 0 0, .slice none 0 0] 66))
    rw [World.size_alloc, ← hb0] at h; rw [hW3]; exact h
   have bT : Bx W3 (b0 + 1 + 1) 66 #[.slice p n c, .slice none 0 0, .slice none 0 0] := by
    have h := Bx.new ((w.alloc (.cells #[.slice p n c, names] 34)).alloc (.cells #[.slice none 0 0, .slice none 0 0, .slice none 0 0] 66)) 66 #[.slice p n c, .slice none 0 0, .slice none 0 0]
    rw [World.size_alloc, World.size_alloc, ← hb0] at h; rw [hW3]; exact h
   have HW3 := lh hW3
   have HB3 := lh hB3
   have HR3 := lh bR
   have HT3 : Hid (TreeAt W3 (b0 + 1 + 1) (b0 + 1 + 1) (.slice p n c) none 0 none 0 0 []) := ⟨rfl, bT, ownZ_nil _ _, ownZ_nil _ _, fun g e => by simp [Value.ownBlock] at e⟩
   have HB0 := lh hb0
   have hnI4 : (n : Int) ≤ 4000 := by omega
   have HN4 : Hid (n ≤ 4000 ∧ n ≠ 0) := ⟨by omega, hn0⟩
   clear hW3 hB3 bR bT hn4 hn0
   go_enter Tryz.func42, Tryz.ntmps42
   go_wp2
   rw [← HW3.out, ← hb0]
   clear hb0 hq hg hnI
   go_loopw [23] (fun iv wr => ∃ (k : Nat) (acc : List (Nat × Nat)) (pf : Option Addr) (cf : Nat) (pd : Option Addr) (cd : Nat), k ≤ n ∧ iv = .int .i64 (k : Nat) ∧ Hid (ordG ((nds xs).drop k) acc = ordG (nds xs) []) ∧ Hid (FOk (gf acc) k) ∧ Hid (TreeAt wr (b0 + 1 + 1) (b0 + 1 + 1) (.slice p n c) pf cf pd cd k acc) ∧ Hid (Bx wr (b0 + 1) 66 #[.slice none 0 0, .slice none 0 0, .slice none 0 0]) ∧ Hid (Below w.heap.size w wr)) (fun iv _ => n - (intOf iv).toNat)
   case atStart => exact ⟨0, [], none, 0, none, 0, Nat.zero_le _, rfl, rfl, fun j hj => absurd hj (Nat.not_lt_zero _), HT3.out, HR3.out, HB3.out⟩
   case round =>
    obtain ⟨k, acc, pf, cf, pd, cd, hk, rfl, HE, HFO, HT, HR, HB⟩ := hrel
    rename World => wr
    by_cases hkn : k < n
    ·have hkI : (k : Int) < n := by omega
     have hkx : k < xs.length := by have := HN.out; omega
     have HRE := lh (reach_any (b0 + 1 + 1) (b0 + 1 + 1) n c k p pf pd cf cd xs acc wr HN.out HN4.out.1 hkn HFO.out HT.out (HP.out.below HB.out) (by omega) (HF.out _ (gn_mem hkx)).1)
     have HKX := lh (And.intro hkn hkx)
     clear hkn hkx
     go_wp2_with fail
     refine HRE.out.mono ?_
     rintro e w5 ⟨hb5, ⟨rfl, hrk⟩ | ⟨f, d, pf', cf', pd', cd', rfl, hrk, hT5⟩⟩
     ·have hnone : ordT (nds xs) = none := by
       rw [HOT.out, ← HE.out, nds_drop HKX.out.2, ordG_none (by rw [← HT.out.len]; exact hrk)]
      have HNO := lh hnone
      have hR5 : Bx w5 (b0 + 1) 66 #[.slice none 0 0, .slice none 0 0, .slice none 0 0] := (hb5.block (b0 + 1) (by omega)).trans HR.out
      have HR5 := lh hR5
      have fr0 := hR5.free 0
      have fr1 := hR5.free 1
      have fr2 := hR5.free 2
      obtain ⟨cr0, cr1, cr2⟩ := three hR5
      have HB5 := lh (HB.out.trans (hb5.mono (by have := HB0.out; omega)))
      clear hb5 hrk hnone hR5
      go_wp2
      have hR6 := ((HR5.out.set 0 (.slice none 0 0)).set 1 (.slice none 0 0)).set 2 (.slice none 0 0)
      have hbz := HB0.out
      have hB6 := ((HB5.out.setCell (p := ⟨b0 + 1, 0, none⟩) (show w.heap.size ≤ b0 + 1 by omega) (.slice none 0 0)).setCell (p := ⟨b0 + 1, 1, none⟩) (show w.heap.size ≤ b0 + 1 by omega) (.slice none 0 0)).setCell (p := ⟨b0 + 1, 2, none⟩) (show w.heap.size ≤ b0 + 1 by omega) (.slice none 0 0)
      obtain ⟨z0, z1, z2⟩ := three (c0 := .slice none 0 0) (c1 := .slice none 0 0) (c2 := .slice none 0 0) hR6
      refine bodyPost_ret (v := .tuple #[.agg #[.slice none 0 0, .slice none 0 0, .slice none 0 0], .bool false]) (by simp [results, Tryz.results42, go_sem, z0, z1, z2]) rfl ?_
      exact ⟨hB6, .inl ⟨HNO.out, _, _, _, _, _, _, _, _, _, rfl⟩⟩
     ·have HR5 : Hid (Bx w5 (b0 + 1) 66 #[.slice none 0 0, .slice none 0 0, .slice none 0 0]) := (hb5.block (b0 + 1) (by omega)).trans HR.out
      have HB5 := lh (HB.out.trans (hb5.mono (by have := HB0.out; omega)))
      obtain ⟨hfk, hdk⟩ := rk_le HFO.out (Nat.le_refl _) (Nat.zero_le _) hrk
      have HF5 := lh (fok_snoc HT.out.len HFO.out hfk hdk)
      have HT5 := lh hT5
      have HE5 : Hid (ordG ((nds xs).drop (k + 1)) (acc ++ [(f, d + 1)]) = ordG (nds xs) []) := by
       show _ = _
       rw [← HE.out, nds_drop HKX.out.2, ordG_cons (by rw [← HT.out.len]; exact hrk)]
      clear hb5 hrk hfk hdk hT5
      go_wp2
      go_roundw
      case rel => exact ⟨k + 1, _, pf', cf', pd', cd', by have := HKX.out.1; omega, by go_num, HE5.out, HF5.out, HT5.out, HR5.out, HB5.out⟩
      case measure => have := HKX.out.1; simp [intOf]; omega
    ·have hkI : (n : Int) ≤ k := by omega
     obtain rfl : k = n := by omega
     have hord : ordG (nds xs) [] = some acc := by
      rw [← HE.out, List.drop_eq_nil_of_le (by rw [nds_length]; have := HN.out; omega)]; rfl
     have HO2 : Hid (ordT (nds xs) = if (gf acc (k - 1)).1 = 0 then some acc else none) := by
      show _ = _
      rw [HOT.out, hord]
     have hk1 : k - 1 < k := by have := HN4.out.2; omega
     obtain ⟨gF, rfl, _, cGF, _, _⟩ := ownZ_at HT.out.fs (by rw [fsZ_length]; exact HT.out.len) hk1
     rw [fsZ_at (by rw [← HT.out.len]; exact hk1)] at cGF
     obtain ⟨ct0, ct1, ct2⟩ := three HT.out.box
     obtain ⟨cr0, cr1, cr2⟩ := three HR.out
     have fr0 := HR.out.free 0
     have fr1 := HR.out.free 1
     have fr2 := HR.out.free 2
     obtain ⟨j, hj⟩ : ∃ j, j = k - 1 := ⟨_, rfl⟩
     rw [← hj] at cGF
     have hjI : (k : Int) - 1 = (j : Nat) := by have := HN4.out.2; omega
     have hjk : (j : Int) < k := by omega
     obtain ⟨x, hx⟩ : ∃ x, x = (gf acc j).1 := ⟨_, rfl⟩
     rw [← hx] at cGF
     have HX : Hid (x = (gf acc (k - 1)).1) := by show _ = _; rw [hx, hj]
     have HKP := lh (show 1 ≤ k by have := HN4.out.2; omega)
     have hgl : b0 + 1 + 1 ≤ gF := (World.ownsRow.lt HT.out.fs gF rfl).1
     have n1 : ¬ b0 + 1 = gF := by omega
     have n2 : ¬ b0 + 1 = b0 + 1 + 1 := by omega
     clear hord hk1 hx hj hgl
     go_wp2
     go_region
     go_wp2
     have hR6 := ((HR.out.set 0 (.slice p k c)).set 1 (.slice (some ⟨gF, 0, none⟩) k cf)).set 2 (.slice pd k cd)
     have hbz := HB0.out
     have hB6 := (((HB.out.setCell (p := ⟨b0 + 1, 0, none⟩) (show w.heap.size ≤ b0 + 1 by omega) (.slice p k c)).setCell (p := ⟨b0 + 1, 1, none⟩) (show w.heap.size ≤ b0 + 1 by omega) (.slice (some ⟨gF, 0, none⟩) k cf)).setCell (p := ⟨b0 + 1, 2, none⟩) (show w.heap.size ≤ b0 + 1 by omega) (.slice pd k cd)).drew
     obtain ⟨z0, z1, z2⟩ := three (c0 := .slice p k c) (c1 := .slice (some ⟨gF, 0, none⟩) k cf) (c2 := .slice pd k cd) hR6
     have keepZ : ∀ {v l}, OwnZ wr (b0 + 1 + 1) v l → OwnZ ((((wr.setCell ⟨b0 + 1, 0, none⟩ (.slice p k c)).setCell ⟨b0 + 1, 1, none⟩ (.slice (some ⟨gF, 0, none⟩) k cf)).setCell ⟨b0 + 1, 2, none⟩ (.slice pd k cd)).drew) w.heap.size v l := fun {v l} h => by
      have h1 : OwnZ _ (b0 + 1 + 1) _ _ := ownsRow_setCell_other (a := ⟨b0 + 1, 0, none⟩) h (row_ne h HR.out (by decide)) (.slice p k c)
      have h2 : OwnZ _ (b0 + 1 + 1) _ _ := ownsRow_setCell_other (a := ⟨b0 + 1, 1, none⟩) h1 (row_ne h1 (HR.out.set 0 (.slice p k c)) (by decide)) (.slice (some ⟨gF, 0, none⟩) k cf)
      have h3 : OwnZ _ (b0 + 1 + 1) _ _ := ownsRow_setCell_other (a := ⟨b0 + 1, 2, none⟩) h2 (row_ne h2 ((HR.out.set 0 (.slice p k c)).set 1 (.slice (some ⟨gF, 0, none⟩) k cf)) (by decide)) (.slice pd k cd)
      exact ownZ_down (ownZ_below h3 (bl_drew _)) (by omega)
     refine bodyPost_ret (v := .tuple #[.agg #[.slice p k c, .slice (some ⟨gF, 0, none⟩) k cf, .slice pd k cd], .bool ((x : Int) == 0)]) (by simp [results, Tryz.results42, go_sem, z0, z1, z2]) rfl ?_
     refine ⟨hB6, ?_⟩
     by_cases hx0 : x = 0
     ·right
      refine ⟨acc, _, cf, pd, cd, by rw [HO2.out, if_pos (by rw [← HX.out]; exact hx0)], HT.out.len, HFO.out, by rw [hx0]; rfl, keepZ HT.out.fs, keepZ HT.out.ds⟩
     ·left
      refine ⟨by rw [HO2.out, if_neg (by rw [← HX.out]; exact hx0)], p, k, c, some ⟨gF, 0, none⟩, k, cf, pd, k, cd, ?_⟩
      have : ((x : Int) == 0) = false := by rw [beq_eq_false_iff_ne]; omega
      rw [this]

theorem deep_any (v : Value) (pf pd : Option Addr) (n cf cd : Nat) (l : List (Nat × Nat)) (B : Nat) (w : World) (hn : n = l.length) (h0 : 1 ≤ n) (hn4 : n ≤ 4000) (hd : OwnZ w B (.slice pd n cd) (dsZ l)) :
  Calls Tryz.prog 73 #[.agg #[v, .slice pf n cf, .slice pd n cd]] w fun e w' => e = .returned (.int .i64 ((gf l (n - 1)).2 : Nat)) ∧ Below w.heap.size w w' := by
 obtain ⟨j, hj⟩ : ∃ j, j = n - 1 := ⟨_, rfl⟩
 obtain ⟨g, rfl, _, cg, _, _⟩ := ownZ_at hd (by rw [dsZ_length]; exact hn) (show j < n by omega)
 rw [dsZ_at (by omega)] at cg
 rw [← hj]
 have hjI : (n : Int) - 1 = (j : Nat) := by omega
 have hjk : (j : Int) < n := by omega
 have hnI : (n : Int) ≤ 4000 := by omega
 have h1I : (1 : Int) ≤ n := by omega
 have cg2 : (w.alloc (.cells #[v, .slice pf n cf, .slice (some ⟨g, 0, none⟩) n cd] 66)).cell? ⟨g, j, none⟩ = some (.int .i64 ((gf l j).2 : Nat)) := by
  rw [(bl_alloc w _).cell (World.block_lt_of_cell? w _ cg)]; exact cg
 clear hd hn hj h0 hn4
 go_enter Tryz.func73, Tryz.ntmps73
 go_wp2
 go_ret
 exact ⟨rfl, bl_alloc _ _⟩

theorem last_any (p : Option Addr) (n c : Nat) (xs : List NV) (w : World) (hn : n = xs.length) (h0 : 1 ≤ n) (hn4 : n ≤ 4000) (hp : SlN w p xs) :
  Calls Tryz.prog 45 #[.slice p n c] w fun e w' => e = .returned (.agg (encN (gn xs (n - 1))).toArray) ∧ Below w.heap.size w w' := by
 obtain ⟨j, hj⟩ : ∃ j, j = n - 1 := ⟨_, rfl⟩
 obtain ⟨b, o, rfl, ⟨c0, c1, c2, c3, c4, c5, c6, c7, c8⟩, _⟩ := hp.at (show j < xs.length by omega)
 rw [← hj]
 have hjI : (n : Int) - 1 = (j : Nat) := by omega
 have hjk : (j : Int) < n := by omega
 have hnI : (n : Int) ≤ 4000 := by omega
 have h1I : (1 : Int) ≤ n := by omega
 obtain ⟨x, hx⟩ : ∃ x, x = gn xs j := ⟨_, rfl⟩
 rw [← hx] at c0 c1 c2 c3 c4 c5 c6 c7 c8 ⊢
 obtain ⟨ls, hls⟩ : ∃ n, n = x.nd.set.length := ⟨_, rfl⟩
 obtain ⟨lk, hlk⟩ : ∃ n, n = x.nd.kids.length := ⟨_, rfl⟩
 rw [← hls] at c1
 rw [← hlk] at c2
 have hZ : ∀ {i v}, w.cell? ⟨b, i, none⟩ = some v → (w.alloc (.cells #[.int .u8 0, .slice none 0 0, .slice none 0 0, .int .i64 0, .int .i64 0, .int .i64 0, .int .u8 0, .int .u8 0, .bool false] 28)).cell? ⟨b, i, none⟩ = some v := fun {i v} h => by
  rw [(bl_alloc w _).cell (World.block_lt_of_cell? w _ h)]; exact h
 have d0 := hZ c0
 have d1 := hZ c1
 have d2 := hZ c2
 have d3 := hZ c3
 have d4 := hZ c4
 have d5 := hZ c5
 have d6 := hZ c6
 have d7 := hZ c7
 have d8 := hZ c8
 have HE : Hid ((encN x).toArray = #[.int .u8 x.nd.kind, .slice x.ps ls x.cs, .slice x.pk lk x.ck, .int .i64 x.nd.group, .int .i64 x.nd.mn, .int .i64 x.nd.mx, .int .u8 x.nd.mode, .int .u8 x.nd.spot, .bool x.nd.neg]) := by show _ = _; rw [hls, hlk]; rfl
 clear hp hn hj h0 hn4 hZ hx hls hlk
 go_enter Tryz.func45, Tryz.ntmps45
 go_wp2
 obtain ⟨z0, z1, z2, z3, z4, z5, z6, z7, z8⟩ := nine (Bx.new w 28 #[.int .u8 x.nd.kind, .slice x.ps ls x.cs, .slice x.pk lk x.ck, .int .i64 x.nd.group, .int .i64 x.nd.mn, .int .i64 x.nd.mx, .int .u8 x.nd.mode, .int .u8 x.nd.spot, .bool x.nd.neg])
 refine bodyPost_ret (v := .agg #[.int .u8 x.nd.kind, .slice x.ps ls x.cs, .slice x.pk lk x.ck, .int .i64 x.nd.group, .int .i64 x.nd.mn, .int .i64 x.nd.mx, .int .u8 x.nd.mode, .int .u8 x.nd.spot, .bool x.nd.neg]) (by simp [results, Tryz.results45, go_sem, z0, z1, z2, z3, z4, z5, z6, z7, z8]) rfl ⟨by rw [HE.out], bl_alloc _ _⟩

theorem OwnN.other {w : World} {B b : Nat} {v : Value} {xs : List NV} {T : TypeId} {cs : Array Value} (h : OwnN w B v xs) (hb : Bx w b T cs) (h1 : T ≠ 28) (h2 : T ≠ 63) (h3 : T ≠ 3) (i : Nat) (u : Value) : OwnN (w.setCell ⟨b, i, none⟩ u) B v xs :=
 ⟨ownsRow_setCell_other (a := ⟨b, i, none⟩) h.row (row_ne h.row hb h1) u, fun x hx => ownsRow_setCell_other (a := ⟨b, i, none⟩) (h.set x hx) (ownR_ne (h.set x hx) hb h2) u, fun x hx => ownsRow_setCell_other (a := ⟨b, i, none⟩) (h.kids x hx) (row_ne (h.kids x hx) hb h3) u⟩
def covN (ns : List Nd) (f k : Nat) : List Nd := ((ns.drop f).take (k + 1 - f)).map (mv (-(f : Int)))
theorem nds_slice (xs : List NV) (f m : Nat) : nds ((xs.drop f).take m) = ((nds xs).drop f).take m := by
 unfold nds
 rw [List.map_take, List.map_drop]

theorem covered_up (p pf pd : Option Addr) (n c cf cd k : Nat) (xs : List NV) (l : List (Nat × Nat)) (B : Nat) (w : World) (hn : n = xs.length) (hl : n = l.length) (hn4 : n ≤ 4000) (hc : n ≤ c) (hcm : c ≤ 9223372036854775807) (hk : k < n) (hF : FOk (gf l) n) (hp : SlN w p xs) (hf : Few xs) (hd : OwnZ w B (.slice pf n cf) (fsZ l)) :
  Calls Tryz.prog 43 #[.agg #[.slice p n c, .slice pf n cf, .slice pd n cd], .int .i64 (k : Nat)] w fun e w' => ∃ q m cq ys, m = ys.length ∧ e = .returned (.agg #[.slice q m cq, .slice none 0 0]) ∧ OwnN w' w.heap.size (.slice q m cq) ys ∧ nds ys = covN (nds xs) (gf l k).1 k ∧ Below w.heap.size w w' ∧ DisN ys := by
 obtain ⟨b, o, rfl, _, _⟩ := hp.at (show 0 < xs.length by omega)
 obtain ⟨g, rfl, _, cg, _, _⟩ := ownZ_at hd (by rw [fsZ_length]; exact hl) hk
 rw [fsZ_at (by omega)] at cg
 obtain ⟨f, hfe⟩ : ∃ f, f = (gf l k).1 := ⟨_, rfl⟩
 have hfk : f ≤ k := by rw [hfe]; exact (hF k hk).1
 rw [← hfe] at cg ⊢
 obtain ⟨m, hm⟩ : ∃ m, m = k + 1 - f := ⟨_, rfl⟩
 have hsl := hp.slice f m (by omega)
 have hlen : m = ((xs.drop f).take m).length := by rw [List.length_take, List.length_drop]; omega
 obtain ⟨W2, hW2⟩ : ∃ W, W = (w.alloc (.cells #[.slice (some ⟨b, o, none⟩) n c, .slice (some ⟨g, 0, none⟩) n cf, .slice pd n cd] 66)).alloc (.cells #[.slice none 0 0, .slice none 0 0] 34) := ⟨_, rfl⟩
 have hB2 : Below w.heap.size w W2 := by rw [hW2]; exact bl_trans (bl_alloc _ _) (bl_alloc _ _)
 have bR : Bx W2 (w.heap.size + 1) 34 #[.slice none 0 0, .slice none 0 0] := by
  have h := Bx.new (w.alloc (.cells #[.slice (some ⟨b, o, none⟩) n c, .slice (some ⟨g, 0, none⟩) n cf, .slice pd n cd] 66)) 34 #[.slice none 0 0, .slice none 0 0]
  rw [World.size_alloc] at h; rw [hW2]; exact h
 have cg2 : W2.cell? ⟨g, k, none⟩ = some (.int .i64 (f : Nat)) := by rw [hB2.cell (World.block_lt_of_cell? w _ cg)]; exact cg
 rw [hW2] at cg2
 have HMV := lh (moved_up (some ⟨b, o + f * 9, none⟩) (c - f) m ((xs.drop f).take m) (-(f : Int)) W2 hlen (hsl.below hB2) (by omega) (fun x hx => hf x (List.mem_of_mem_drop (List.mem_of_mem_take hx))))
 have HW2 := lh hW2
 have HB2 := lh hB2
 have HR := lh bR
 have HC : Hid ((((xs.drop f).take m).map fun x => mv (-(f : Int)) x.nd) = covN (nds xs) f k) := by
  show _ = _
  unfold covN
  rw [← hm, ← nds_slice]
  unfold nds
  rw [List.map_map]; rfl
 have hkI : (k : Int) < n := by omega
 have hnI : (n : Int) ≤ 4000 := by omega
 have hfI : (f : Int) ≤ k := by omega
 have hcI : (n : Int) ≤ c := by omega
 have hcJ : (c : Int) ≤ 9223372036854775807 := by omega
 have e1 : ((k : Int) + 1).toNat = k + 1 := by omega
 have e2 : ¬ c = f := by omega
 have e3 : k + 1 - f = m := hm.symm
 clear hp hf hd hF hn hl hn4 hc hcm hk hfe hfk hsl hlen hB2 bR hW2 hm cg
 go_enter Tryz.func43, Tryz.ntmps43
 go_wp2_with fail
 rw [← HW2.out]
 refine HMV.out.mono ?_
 rintro e w5 ⟨q, cq, ys, rfl, ho5, hy5, hb5, hd5⟩
 have HD5 := lh hd5
 clear hd5
 have hR5 := HR.out.below hb5
 have c0 : w5.cell? ⟨w.heap.size + 1, 0, none⟩ = some (.slice none 0 0) := hR5.cell rfl
 have c1 : w5.cell? ⟨w.heap.size + 1, 1, none⟩ = some (.slice none 0 0) := hR5.cell rfl
 have f0 := hR5.free 0
 have f1 := hR5.free 1
 have HR5 := lh hR5
 have HO5 := lh ho5
 have HY5 := lh hy5
 have HB5 := lh (HB2.out.trans (hb5.mono HB2.out.size))
 have HS5 := lh HB2.out.size
 have HM5 : Hid (m = ys.length) := by
  obtain ⟨_, _, e, _⟩ := ho5.form
  simp only [Value.slice.injEq] at e
  exact e.2.1
 clear hR5 ho5 hy5 hb5
 go_wp2
 have hR6 := (HR5.out.set 0 (.slice q m cq)).set 1 (.slice none 0 0)
 have z0 := hR6.cell (i := 0) (v := .slice q m cq) rfl
 have z1 := hR6.cell (i := 1) (v := .slice none 0 0) rfl
 refine bodyPost_ret (v := .agg #[.slice q m cq, .slice none 0 0]) (by simp [results, Tryz.results43, go_sem, z0, z1]) rfl ?_
 refine ⟨q, m, cq, ys, HM5.out, rfl, ?_, by rw [← HC.out]; exact HY5.out, (HB5.out.setCell (p := ⟨w.heap.size + 1, 0, none⟩) (Nat.le_succ _) _).setCell (p := ⟨w.heap.size + 1, 1, none⟩) (Nat.le_succ _) _, HD5.out⟩
 have h1 := (HO5.out.down HS5.out).other HR5.out (by decide) (by decide) (by decide) 0 (.slice q m cq)
 exact h1.other (HR5.out.set 0 (.slice q m cq)) (by decide) (by decide) (by decide) 1 (.slice none 0 0)
end Go.Proofs.YtkefndfgkmdphaaGreat
