/- The walks of ordered, deep, last, covered. -/
/- The walks of Deep, Of; rows of trees; the walk of Kids. -/
/- Trees in order, plain: what each node's kids are. -/
import Derived.Test.YtjpccmiaimkmbaaGreatLf

namespace Go.Proofs.YtjpccmiaimkmbaaGreat
open Go.RowKit Tnr Tnt

theorem three {w : World} {b : Nat} {T : TypeId} {c0 c1 c2 : Value} (h : Bx w b T #[c0, c1, c2]) : w.cell? ⟨b, 0, none⟩ = some c0 ∧ w.cell? ⟨b, 1, none⟩ = some c1 ∧ w.cell? ⟨b, 2, none⟩ = some c2 := ⟨h.cell rfl, h.cell rfl, h.cell rfl⟩
theorem ordG_cons {n : Nd} {ns : List Nd} {acc : List (Nat × Nat)} {f d : Nat} (h : rk (gf acc) n.kids.reverse acc.length 0 = some (f, d)) : ordG (n :: ns) acc = ordG ns (acc ++ [(f, d + 1)]) := by
  simp only [ordG, h]
theorem ordG_none {n : Nd} {ns : List Nd} {acc : List (Nat × Nat)} (h : rk (gf acc) n.kids.reverse acc.length 0 = none) : ordG (n :: ns) acc = none := by
  simp only [ordG, h]
theorem gf_snoc_lt {l : List (Nat × Nat)} {x : Nat × Nat} {i : Nat} (h : i < l.length) : gf (l ++ [x]) i = gf l i := by
  unfold gf
  rw [List.getD_eq_getElem?_getD, List.getD_eq_getElem?_getD, List.getElem?_append_left h]
theorem gf_snoc_eq {l : List (Nat × Nat)} {x : Nat × Nat} : gf (l ++ [x]) l.length = x := by
  unfold gf
  rw [List.getD_eq_getElem?_getD, List.getElem?_append_right (Nat.le_refl _)]; simp
theorem fok_snoc {l : List (Nat × Nat)} {f d k : Nat} (hk : k = l.length) (h : FOk (gf l) k) (hf : f ≤ k) (hd : d ≤ k) : FOk (gf (l ++ [(f, d + 1)])) (k + 1) := by
  subst hk
  intro j hj
  by_cases e : j < l.length
  · rw [gf_snoc_lt e]; exact h j e
  · have : j = l.length := by omega
    subst this
    rw [gf_snoc_eq]; exact ⟨hf, by show d + 1 ≤ _; omega⟩
def nds (xs : List NV) : List Nd := xs.map NV.nd
theorem nds_length (xs : List NV) : (nds xs).length = xs.length := by simp [nds]
theorem nds_drop {xs : List NV} {k : Nat} (h : k < xs.length) : (nds xs).drop k = (gn xs k).nd :: (nds xs).drop (k + 1) := by
  unfold nds
  rw [← List.map_drop, drop_gn h, List.map_cons, List.map_drop]
def Few (xs : List NV) : Prop := ∀ x ∈ xs, x.nd.kids.length ≤ 1000000 ∧ x.nd.set.length ≤ 1000000
def OrdPost (p : Option Addr) (n c : Nat) (xs : List NV) (w : World) (e : Ending) (w' : World) : Prop :=
  Below w.heap.size w w' ∧ ((ordT (nds xs) = none ∧ ∃ a0 n0 c0 a1 n1 c1 a2 n2 c2, e = .returned (.tuple #[.agg #[.slice a0 n0 c0, .slice a1 n1 c1, .slice a2 n2 c2], .bool false])) ∨
    ∃ l pf cf pd cd, ordT (nds xs) = some l ∧ n = l.length ∧ FOk (gf l) n ∧ e = .returned (.tuple #[.agg #[.slice p n c, .slice pf n cf, .slice pd n cd], .bool true]) ∧ OwnZ w' w.heap.size (.slice pf n cf) (fsZ l) ∧ OwnZ w' w.heap.size (.slice pd n cd) (dsZ l))

set_option maxHeartbeats 3200000 in
set_option maxRecDepth 100000 in
theorem ordered_any (p : Option Addr) (n c : Nat) (xs : List NV) (names : Value) (w : World) (hn : n = xs.length) (hnm : n ≤ 1000000000) (hp : SlN w p xs) (hf : Few xs) :
    Calls Tryz.prog 41 #[.agg #[.slice p n c, names]] w (OrdPost p n c xs w) := by
  have HP := Lib.hid hp
  have HN := Lib.hid hn
  have HF := Lib.hid hf
  have hnI : (n : Int) ≤ 1000000000 := by omega
  clear hp hn hf
  by_cases hn0 : n = 0
  · have hq : ((n : Int) == 0) = true := by rw [hn0]; rfl
    have HZ : Hid (ordT (nds xs) = none) := by
      show _ = none
      unfold ordT
      rw [if_pos (.inl (by rw [nds_length, ← HN.out]; exact hn0))]
    clear hn0
    go_enter Tryz.func41, Tryz.ntmps41
    go_wp2
    have hbr := three (Bx.new (w.alloc (.cells #[.slice p n c, names] 34)) 67 #[.slice none 0 0, .slice none 0 0, .slice none 0 0])
    rw [World.size_alloc] at hbr
    refine bodyPost_ret (v := .tuple #[.agg #[.slice none 0 0, .slice none 0 0, .slice none 0 0], .bool false]) (by simp [results, Tryz.results41, go_sem, hbr.1, hbr.2.1, hbr.2.2]) rfl ?_
    exact ⟨bl_trans (bl_alloc _ _) (bl_alloc _ _), .inl ⟨HZ.out, _, _, _, _, _, _, _, _, _, rfl⟩⟩
  · have hq : ((n : Int) == 0) = false := by rw [beq_eq_false_iff_ne]; omega
    by_cases hn4 : 4000 < n
    · have hg : (decide ((4000 : Int) < (n : Int))) = true := by rw [decide_eq_true_eq]; omega
      have HZ : Hid (ordT (nds xs) = none) := by
        show _ = none
        unfold ordT
        rw [if_pos (.inr (by rw [nds_length, ← HN.out]; exact hn4))]
      clear hn4 hn0
      go_enter Tryz.func41, Tryz.ntmps41
      go_wp2
      have hbr := three (Bx.new (w.alloc (.cells #[.slice p n c, names] 34)) 67 #[.slice none 0 0, .slice none 0 0, .slice none 0 0])
      rw [World.size_alloc] at hbr
      refine bodyPost_ret (v := .tuple #[.agg #[.slice none 0 0, .slice none 0 0, .slice none 0 0], .bool false]) (by simp [results, Tryz.results41, go_sem, hbr.1, hbr.2.1, hbr.2.2]) rfl ?_
      exact ⟨bl_trans (bl_alloc _ _) (bl_alloc _ _), .inl ⟨HZ.out, _, _, _, _, _, _, _, _, _, rfl⟩⟩
    · have hg : (decide ((4000 : Int) < (n : Int))) = false := by rw [decide_eq_false_iff_not]; omega
      have HOT : Hid (ordT (nds xs) = match ordG (nds xs) [] with | none => none | some l => if (gf l (n - 1)).1 = 0 then some l else none) := by
        show _ = _
        unfold ordT
        rw [nds_length, ← HN.out, if_neg (by omega)]
        cases ordG (nds xs) [] <;> rfl
      obtain ⟨b0, hb0⟩ : ∃ b, b = w.heap.size := ⟨_, rfl⟩
      obtain ⟨W3, hW3⟩ : ∃ W, W = ((w.alloc (.cells #[.slice p n c, names] 34)).alloc (.cells #[.slice none 0 0, .slice none 0 0, .slice none 0 0] 67)).alloc (.cells #[.slice p n c, .slice none 0 0, .slice none 0 0] 67) := ⟨_, rfl⟩
      have hB3 : Below w.heap.size w W3 := by rw [hW3]; exact bl_trans (bl_trans (bl_alloc _ _) (bl_alloc _ _)) (bl_alloc _ _)
      have bR : Bx W3 (b0 + 1) 67 #[.slice none 0 0, .slice none 0 0, .slice none 0 0] := by
        have h := (Bx.new (w.alloc (.cells #[.slice p n c, names] 34)) 67 #[.slice none 0 0, .slice none 0 0, .slice none 0 0]).below (bl_alloc _ (.cells #[.slice p n c, .slice none 0 0, .slice none 0 0] 67))
        rw [World.size_alloc, ← hb0] at h; rw [hW3]; exact h
      have bT : Bx W3 (b0 + 1 + 1) 67 #[.slice p n c, .slice none 0 0, .slice none 0 0] := by
        have h := Bx.new ((w.alloc (.cells #[.slice p n c, names] 34)).alloc (.cells #[.slice none 0 0, .slice none 0 0, .slice none 0 0] 67)) 67 #[.slice p n c, .slice none 0 0, .slice none 0 0]
        rw [World.size_alloc, World.size_alloc, ← hb0] at h; rw [hW3]; exact h
      have HW3 := Lib.hid hW3
      have HB3 := Lib.hid hB3
      have HR3 := Lib.hid bR
      have HT3 : Hid (TreeAt W3 (b0 + 1 + 1) (b0 + 1 + 1) (.slice p n c) none 0 none 0 0 []) := ⟨rfl, bT, ownZ_nil _ _, ownZ_nil _ _, fun g e => by simp [Value.ownBlock] at e⟩
      have HB0 := Lib.hid hb0
      have hnI4 : (n : Int) ≤ 4000 := by omega
      have HN4 : Hid (n ≤ 4000 ∧ n ≠ 0) := ⟨by omega, hn0⟩
      clear hW3 hB3 bR bT hn4 hn0
      go_enter Tryz.func41, Tryz.ntmps41
      go_wp2
      rw [← HW3.out, ← hb0]
      clear hb0 hq hg hnI
      go_loopw [23] (fun iv wr => ∃ (k : Nat) (acc : List (Nat × Nat)) (pf : Option Addr) (cf : Nat) (pd : Option Addr) (cd : Nat), k ≤ n ∧ iv = .int .i64 (k : Nat) ∧ Hid (ordG ((nds xs).drop k) acc = ordG (nds xs) []) ∧ Hid (FOk (gf acc) k) ∧ Hid (TreeAt wr (b0 + 1 + 1) (b0 + 1 + 1) (.slice p n c) pf cf pd cd k acc) ∧ Hid (Bx wr (b0 + 1) 67 #[.slice none 0 0, .slice none 0 0, .slice none 0 0]) ∧ Hid (Below w.heap.size w wr)) (fun iv _ => n - (intOf iv).toNat)
      case atStart => exact ⟨0, [], none, 0, none, 0, Nat.zero_le _, rfl, rfl, fun j hj => absurd hj (Nat.not_lt_zero _), HT3.out, HR3.out, HB3.out⟩
      case round =>
        obtain ⟨k, acc, pf, cf, pd, cd, hk, rfl, HE, HFO, HT, HR, HB⟩ := hrel
        rename World => wr
        by_cases hkn : k < n
        · have hkI : (k : Int) < n := by omega
          have hkx : k < xs.length := by have := HN.out; omega
          have HRE := Lib.hid (reach_any (b0 + 1 + 1) (b0 + 1 + 1) n c k p pf pd cf cd xs acc wr HN.out HN4.out.1 hkn HFO.out HT.out (HP.out.below HB.out) (by omega) (HF.out _ (gn_mem hkx)).1)
          have HKX := Lib.hid (And.intro hkn hkx)
          clear hkn hkx
          go_wp2_with fail
          refine HRE.out.mono ?_
          rintro e w5 ⟨hb5, ⟨rfl, hrk⟩ | ⟨f, d, pf', cf', pd', cd', rfl, hrk, hT5⟩⟩
          · have hnone : ordT (nds xs) = none := by
              rw [HOT.out, ← HE.out, nds_drop HKX.out.2, ordG_none (by rw [← HT.out.len]; exact hrk)]
            have HNO := Lib.hid hnone
            have hR5 : Bx w5 (b0 + 1) 67 #[.slice none 0 0, .slice none 0 0, .slice none 0 0] := (hb5.block (b0 + 1) (by omega)).trans HR.out
            have HR5 := Lib.hid hR5
            have fr0 := hR5.free 0
            have fr1 := hR5.free 1
            have fr2 := hR5.free 2
            obtain ⟨cr0, cr1, cr2⟩ := three hR5
            have HB5 := Lib.hid (HB.out.trans (hb5.mono (by have := HB0.out; omega)))
            clear hb5 hrk hnone hR5
            go_wp2
            have hR6 := ((HR5.out.set 0 (.slice none 0 0)).set 1 (.slice none 0 0)).set 2 (.slice none 0 0)
            have hbz := HB0.out
            have hB6 := ((HB5.out.setCell (p := ⟨b0 + 1, 0, none⟩) (show w.heap.size ≤ b0 + 1 by omega) (.slice none 0 0)).setCell (p := ⟨b0 + 1, 1, none⟩) (show w.heap.size ≤ b0 + 1 by omega) (.slice none 0 0)).setCell (p := ⟨b0 + 1, 2, none⟩) (show w.heap.size ≤ b0 + 1 by omega) (.slice none 0 0)
            obtain ⟨z0, z1, z2⟩ := three (c0 := .slice none 0 0) (c1 := .slice none 0 0) (c2 := .slice none 0 0) hR6
            refine bodyPost_ret (v := .tuple #[.agg #[.slice none 0 0, .slice none 0 0, .slice none 0 0], .bool false]) (by simp [results, Tryz.results41, go_sem, z0, z1, z2]) rfl ?_
            exact ⟨hB6, .inl ⟨HNO.out, _, _, _, _, _, _, _, _, _, rfl⟩⟩
          · have HR5 : Hid (Bx w5 (b0 + 1) 67 #[.slice none 0 0, .slice none 0 0, .slice none 0 0]) := (hb5.block (b0 + 1) (by omega)).trans HR.out
            have HB5 := Lib.hid (HB.out.trans (hb5.mono (by have := HB0.out; omega)))
            obtain ⟨hfk, hdk⟩ := rk_le HFO.out (Nat.le_refl _) (Nat.zero_le _) hrk
            have HF5 := Lib.hid (fok_snoc HT.out.len HFO.out hfk hdk)
            have HT5 := Lib.hid hT5
            have HE5 : Hid (ordG ((nds xs).drop (k + 1)) (acc ++ [(f, d + 1)]) = ordG (nds xs) []) := by
              show _ = _
              rw [← HE.out, nds_drop HKX.out.2, ordG_cons (by rw [← HT.out.len]; exact hrk)]
            clear hb5 hrk hfk hdk hT5
            go_wp2
            go_roundw
            case rel => exact ⟨k + 1, _, pf', cf', pd', cd', by have := HKX.out.1; omega, by go_num, HE5.out, HF5.out, HT5.out, HR5.out, HB5.out⟩
            case measure => have := HKX.out.1; simp [intOf]; omega
        · have hkI : (n : Int) ≤ k := by omega
          obtain rfl : k = n := by omega
          have hord : ordG (nds xs) [] = some acc := by
            rw [← HE.out, List.drop_eq_nil_of_le (by rw [nds_length]; have := HN.out; omega)]; rfl
          have HO2 : Hid (ordT (nds xs) = if (gf acc (k - 1)).1 = 0 then some acc else none) := by
            show _ = _
            rw [HOT.out, hord]
          have hk1 : k - 1 < k := by have := HN4.out.2; omega
          obtain ⟨gF, rfl, _, cGF, _, _⟩ := ownZ_at HT.out.fs (by rw [fsZ_length]; exact HT.out.len) hk1
          rw [fsZ_at (by rw [← HT.out.len]; exact hk1)] at cGF
          obtain ⟨ct0, ct1, ct2⟩ := three HT.out.box
          obtain ⟨cr0, cr1, cr2⟩ := three HR.out
          have fr0 := HR.out.free 0
          have fr1 := HR.out.free 1
          have fr2 := HR.out.free 2
          obtain ⟨j, hj⟩ : ∃ j, j = k - 1 := ⟨_, rfl⟩
          rw [← hj] at cGF
          have hjI : (k : Int) - 1 = (j : Nat) := by have := HN4.out.2; omega
          have hjk : (j : Int) < k := by omega
          obtain ⟨x, hx⟩ : ∃ x, x = (gf acc j).1 := ⟨_, rfl⟩
          rw [← hx] at cGF
          have HX : Hid (x = (gf acc (k - 1)).1) := by show _ = _; rw [hx, hj]
          have HKP := Lib.hid (show 1 ≤ k by have := HN4.out.2; omega)
          have hgl : b0 + 1 + 1 ≤ gF := (World.ownsRow.lt HT.out.fs gF rfl).1
          have n1 : ¬ b0 + 1 = gF := by omega
          have n2 : ¬ b0 + 1 = b0 + 1 + 1 := by omega
          clear hord hk1 hx hj hgl
          go_wp2
          go_region
          go_wp2
          have hR6 := ((HR.out.set 0 (.slice p k c)).set 1 (.slice (some ⟨gF, 0, none⟩) k cf)).set 2 (.slice pd k cd)
          have hbz := HB0.out
          have hB6 := (((HB.out.setCell (p := ⟨b0 + 1, 0, none⟩) (show w.heap.size ≤ b0 + 1 by omega) (.slice p k c)).setCell (p := ⟨b0 + 1, 1, none⟩) (show w.heap.size ≤ b0 + 1 by omega) (.slice (some ⟨gF, 0, none⟩) k cf)).setCell (p := ⟨b0 + 1, 2, none⟩) (show w.heap.size ≤ b0 + 1 by omega) (.slice pd k cd)).drew
          obtain ⟨z0, z1, z2⟩ := three (c0 := .slice p k c) (c1 := .slice (some ⟨gF, 0, none⟩) k cf) (c2 := .slice pd k cd) hR6
          have keepZ : ∀ {v l}, OwnZ wr (b0 + 1 + 1) v l → OwnZ ((((wr.setCell ⟨b0 + 1, 0, none⟩ (.slice p k c)).setCell ⟨b0 + 1, 1, none⟩ (.slice (some ⟨gF, 0, none⟩) k cf)).setCell ⟨b0 + 1, 2, none⟩ (.slice pd k cd)).drew) w.heap.size v l := fun {v l} h => by
            have h1 : OwnZ _ (b0 + 1 + 1) _ _ := ownsRow_setCell_other (a := ⟨b0 + 1, 0, none⟩) h (row_ne h HR.out (by decide)) (.slice p k c)
            have h2 : OwnZ _ (b0 + 1 + 1) _ _ := ownsRow_setCell_other (a := ⟨b0 + 1, 1, none⟩) h1 (row_ne h1 (HR.out.set 0 (.slice p k c)) (by decide)) (.slice (some ⟨gF, 0, none⟩) k cf)
            have h3 : OwnZ _ (b0 + 1 + 1) _ _ := ownsRow_setCell_other (a := ⟨b0 + 1, 2, none⟩) h2 (row_ne h2 ((HR.out.set 0 (.slice p k c)).set 1 (.slice (some ⟨gF, 0, none⟩) k cf)) (by decide)) (.slice pd k cd)
            exact ownZ_down (ownZ_below h3 (bl_drew _)) (by omega)
          refine bodyPost_ret (v := .tuple #[.agg #[.slice p k c, .slice (some ⟨gF, 0, none⟩) k cf, .slice pd k cd], .bool ((x : Int) == 0)]) (by simp [results, Tryz.results41, go_sem, z0, z1, z2]) rfl ?_
          refine ⟨hB6, ?_⟩
          by_cases hx0 : x = 0
          · right
            refine ⟨acc, _, cf, pd, cd, by rw [HO2.out, if_pos (by rw [← HX.out]; exact hx0)], HT.out.len, HFO.out, by rw [hx0]; rfl, keepZ HT.out.fs, keepZ HT.out.ds⟩
          · left
            refine ⟨by rw [HO2.out, if_neg (by rw [← HX.out]; exact hx0)], p, k, c, some ⟨gF, 0, none⟩, k, cf, pd, k, cd, ?_⟩
            have : ((x : Int) == 0) = false := by rw [beq_eq_false_iff_ne]; omega
            rw [this]

set_option maxRecDepth 100000 in
theorem deep_any (v : Value) (pf pd : Option Addr) (n cf cd : Nat) (l : List (Nat × Nat)) (B : Nat) (w : World) (hn : n = l.length) (h0 : 1 ≤ n) (hn4 : n ≤ 4000) (hd : OwnZ w B (.slice pd n cd) (dsZ l)) :
    Calls Tryz.prog 63 #[.agg #[v, .slice pf n cf, .slice pd n cd]] w fun e w' => e = .returned (.int .i64 ((gf l (n - 1)).2 : Nat)) ∧ Below w.heap.size w w' := by
  obtain ⟨j, hj⟩ : ∃ j, j = n - 1 := ⟨_, rfl⟩
  obtain ⟨g, rfl, _, cg, _, _⟩ := ownZ_at hd (by rw [dsZ_length]; exact hn) (show j < n by omega)
  rw [dsZ_at (by omega)] at cg
  rw [← hj]
  have hjI : (n : Int) - 1 = (j : Nat) := by omega
  have hjk : (j : Int) < n := by omega
  have hnI : (n : Int) ≤ 4000 := by omega
  have h1I : (1 : Int) ≤ n := by omega
  have cg2 : (w.alloc (.cells #[v, .slice pf n cf, .slice (some ⟨g, 0, none⟩) n cd] 67)).cell? ⟨g, j, none⟩ = some (.int .i64 ((gf l j).2 : Nat)) := by
    rw [(bl_alloc w _).cell (World.block_lt_of_cell? w _ cg)]; exact cg
  clear hd hn hj h0 hn4
  go_enter Tryz.func63, Tryz.ntmps63
  go_wp2
  go_ret
  exact ⟨rfl, bl_alloc _ _⟩

set_option maxRecDepth 100000 in
theorem last_any (p : Option Addr) (n c : Nat) (xs : List NV) (w : World) (hn : n = xs.length) (h0 : 1 ≤ n) (hn4 : n ≤ 4000) (hp : SlN w p xs) :
    Calls Tryz.prog 44 #[.slice p n c] w fun e w' => e = .returned (.agg (encN (gn xs (n - 1))).toArray) ∧ Below w.heap.size w w' := by
  obtain ⟨j, hj⟩ : ∃ j, j = n - 1 := ⟨_, rfl⟩
  obtain ⟨b, o, rfl, ⟨c0, c1, c2, c3, c4, c5, c6, c7, c8⟩, _⟩ := hp.at (show j < xs.length by omega)
  rw [← hj]
  have hjI : (n : Int) - 1 = (j : Nat) := by omega
  have hjk : (j : Int) < n := by omega
  have hnI : (n : Int) ≤ 4000 := by omega
  have h1I : (1 : Int) ≤ n := by omega
  obtain ⟨x, hx⟩ : ∃ x, x = gn xs j := ⟨_, rfl⟩
  rw [← hx] at c0 c1 c2 c3 c4 c5 c6 c7 c8 ⊢
  obtain ⟨ls, hls⟩ : ∃ n, n = x.nd.set.length := ⟨_, rfl⟩
  obtain ⟨lk, hlk⟩ : ∃ n, n = x.nd.kids.length := ⟨_, rfl⟩
  rw [← hls] at c1
  rw [← hlk] at c2
  have hZ : ∀ {i v}, w.cell? ⟨b, i, none⟩ = some v → (w.alloc (.cells #[.int .u8 0, .slice none 0 0, .slice none 0 0, .int .i64 0, .int .i64 0, .int .i64 0, .int .u8 0, .int .u8 0, .bool false] 28)).cell? ⟨b, i, none⟩ = some v := fun {i v} h => by
    rw [(bl_alloc w _).cell (World.block_lt_of_cell? w _ h)]; exact h
  have d0 := hZ c0
  have d1 := hZ c1
  have d2 := hZ c2
  have d3 := hZ c3
  have d4 := hZ c4
  have d5 := hZ c5
  have d6 := hZ c6
  have d7 := hZ c7
  have d8 := hZ c8
  have HE : Hid ((encN x).toArray = #[.int .u8 x.nd.kind, .slice x.ps ls x.cs, .slice x.pk lk x.ck, .int .i64 x.nd.group, .int .i64 x.nd.mn, .int .i64 x.nd.mx, .int .u8 x.nd.mode, .int .u8 x.nd.spot, .bool x.nd.neg]) := by show _ = _; rw [hls, hlk]; rfl
  clear hp hn hj h0 hn4 hZ hx hls hlk
  go_enter Tryz.func44, Tryz.ntmps44
  go_wp2
  obtain ⟨z0, z1, z2, z3, z4, z5, z6, z7, z8⟩ := nine (Bx.new w 28 #[.int .u8 x.nd.kind, .slice x.ps ls x.cs, .slice x.pk lk x.ck, .int .i64 x.nd.group, .int .i64 x.nd.mn, .int .i64 x.nd.mx, .int .u8 x.nd.mode, .int .u8 x.nd.spot, .bool x.nd.neg])
  refine bodyPost_ret (v := .agg #[.int .u8 x.nd.kind, .slice x.ps ls x.cs, .slice x.pk lk x.ck, .int .i64 x.nd.group, .int .i64 x.nd.mn, .int .i64 x.nd.mx, .int .u8 x.nd.mode, .int .u8 x.nd.spot, .bool x.nd.neg]) (by simp [results, Tryz.results44, go_sem, z0, z1, z2, z3, z4, z5, z6, z7, z8]) rfl ⟨by rw [HE.out], bl_alloc _ _⟩

theorem OwnN.other {w : World} {B b : Nat} {v : Value} {xs : List NV} {T : TypeId} {cs : Array Value} (h : OwnN w B v xs) (hb : Bx w b T cs) (h1 : T ≠ 28) (h2 : T ≠ 51) (h3 : T ≠ 3) (i : Nat) (u : Value) : OwnN (w.setCell ⟨b, i, none⟩ u) B v xs :=
  ⟨ownsRow_setCell_other (a := ⟨b, i, none⟩) h.row (row_ne h.row hb h1) u, fun x hx => ownsRow_setCell_other (a := ⟨b, i, none⟩) (h.set x hx) (ownR_ne (h.set x hx) hb h2) u, fun x hx => ownsRow_setCell_other (a := ⟨b, i, none⟩) (h.kids x hx) (row_ne (h.kids x hx) hb h3) u⟩
def covN (ns : List Nd) (f k : Nat) : List Nd := ((ns.drop f).take (k + 1 - f)).map (mv (-(f : Int)))
theorem nds_slice (xs : List NV) (f m : Nat) : nds ((xs.drop f).take m) = ((nds xs).drop f).take m := by
  unfold nds
  rw [List.map_take, List.map_drop]

set_option maxHeartbeats 800000 in
set_option maxRecDepth 100000 in
theorem covered_any (p pf pd : Option Addr) (n c cf cd k : Nat) (xs : List NV) (l : List (Nat × Nat)) (B : Nat) (w : World) (hn : n = xs.length) (hl : n = l.length) (hn4 : n ≤ 4000) (hc : n ≤ c) (hcm : c ≤ 9223372036854775807) (hk : k < n) (hF : FOk (gf l) n) (hp : SlN w p xs) (hf : Few xs) (hd : OwnZ w B (.slice pf n cf) (fsZ l)) :
    Calls Tryz.prog 42 #[.agg #[.slice p n c, .slice pf n cf, .slice pd n cd], .int .i64 (k : Nat)] w fun e w' => ∃ q m cq ys, m = ys.length ∧ e = .returned (.agg #[.slice q m cq, .slice none 0 0]) ∧ OwnN w' w.heap.size (.slice q m cq) ys ∧ nds ys = covN (nds xs) (gf l k).1 k ∧ Below w.heap.size w w' := by
  obtain ⟨b, o, rfl, _, _⟩ := hp.at (show 0 < xs.length by omega)
  obtain ⟨g, rfl, _, cg, _, _⟩ := ownZ_at hd (by rw [fsZ_length]; exact hl) hk
  rw [fsZ_at (by omega)] at cg
  obtain ⟨f, hfe⟩ : ∃ f, f = (gf l k).1 := ⟨_, rfl⟩
  have hfk : f ≤ k := by rw [hfe]; exact (hF k hk).1
  rw [← hfe] at cg ⊢
  obtain ⟨m, hm⟩ : ∃ m, m = k + 1 - f := ⟨_, rfl⟩
  have hsl := hp.slice f m (by omega)
  have hlen : m = ((xs.drop f).take m).length := by rw [List.length_take, List.length_drop]; omega
  obtain ⟨W2, hW2⟩ : ∃ W, W = (w.alloc (.cells #[.slice (some ⟨b, o, none⟩) n c, .slice (some ⟨g, 0, none⟩) n cf, .slice pd n cd] 67)).alloc (.cells #[.slice none 0 0, .slice none 0 0] 34) := ⟨_, rfl⟩
  have hB2 : Below w.heap.size w W2 := by rw [hW2]; exact bl_trans (bl_alloc _ _) (bl_alloc _ _)
  have bR : Bx W2 (w.heap.size + 1) 34 #[.slice none 0 0, .slice none 0 0] := by
    have h := Bx.new (w.alloc (.cells #[.slice (some ⟨b, o, none⟩) n c, .slice (some ⟨g, 0, none⟩) n cf, .slice pd n cd] 67)) 34 #[.slice none 0 0, .slice none 0 0]
    rw [World.size_alloc] at h; rw [hW2]; exact h
  have cg2 : W2.cell? ⟨g, k, none⟩ = some (.int .i64 (f : Nat)) := by rw [hB2.cell (World.block_lt_of_cell? w _ cg)]; exact cg
  rw [hW2] at cg2
  have HMV := Lib.hid (moved_any (some ⟨b, o + f * 9, none⟩) (c - f) m ((xs.drop f).take m) (-(f : Int)) W2 hlen (hsl.below hB2) (by omega) (fun x hx => hf x (List.mem_of_mem_drop (List.mem_of_mem_take hx))))
  have HW2 := Lib.hid hW2
  have HB2 := Lib.hid hB2
  have HR := Lib.hid bR
  have HC : Hid ((((xs.drop f).take m).map fun x => mv (-(f : Int)) x.nd) = covN (nds xs) f k) := by
    show _ = _
    unfold covN
    rw [← hm, ← nds_slice]
    unfold nds
    rw [List.map_map]; rfl
  have hkI : (k : Int) < n := by omega
  have hnI : (n : Int) ≤ 4000 := by omega
  have hfI : (f : Int) ≤ k := by omega
  have hcI : (n : Int) ≤ c := by omega
  have hcJ : (c : Int) ≤ 9223372036854775807 := by omega
  have e1 : ((k : Int) + 1).toNat = k + 1 := by omega
  have e2 : ¬ c = f := by omega
  have e3 : k + 1 - f = m := hm.symm
  clear hp hf hd hF hn hl hn4 hc hcm hk hfe hfk hsl hlen hB2 bR hW2 hm cg
  go_enter Tryz.func42, Tryz.ntmps42
  go_wp2_with fail
  rw [← HW2.out]
  refine HMV.out.mono ?_
  rintro e w5 ⟨q, cq, ys, rfl, ho5, hy5, hb5⟩
  have hR5 := HR.out.below hb5
  have c0 : w5.cell? ⟨w.heap.size + 1, 0, none⟩ = some (.slice none 0 0) := hR5.cell rfl
  have c1 : w5.cell? ⟨w.heap.size + 1, 1, none⟩ = some (.slice none 0 0) := hR5.cell rfl
  have f0 := hR5.free 0
  have f1 := hR5.free 1
  have HR5 := Lib.hid hR5
  have HO5 := Lib.hid ho5
  have HY5 := Lib.hid hy5
  have HB5 := Lib.hid (HB2.out.trans (hb5.mono HB2.out.size))
  have HS5 := Lib.hid HB2.out.size
  have HM5 : Hid (m = ys.length) := by
    obtain ⟨_, _, e, _⟩ := ho5.form
    simp only [Value.slice.injEq] at e
    exact e.2.1
  clear hR5 ho5 hy5 hb5
  go_wp2
  have hR6 := (HR5.out.set 0 (.slice q m cq)).set 1 (.slice none 0 0)
  have z0 := hR6.cell (i := 0) (v := .slice q m cq) rfl
  have z1 := hR6.cell (i := 1) (v := .slice none 0 0) rfl
  refine bodyPost_ret (v := .agg #[.slice q m cq, .slice none 0 0]) (by simp [results, Tryz.results42, go_sem, z0, z1]) rfl ?_
  refine ⟨q, m, cq, ys, HM5.out, rfl, ?_, by rw [← HC.out]; exact HY5.out, (HB5.out.setCell (p := ⟨w.heap.size + 1, 0, none⟩) (Nat.le_succ _) _).setCell (p := ⟨w.heap.size + 1, 1, none⟩) (Nat.le_succ _) _⟩
  have h1 := (HO5.out.down HS5.out).other HR5.out (by decide) (by decide) (by decide) 0 (.slice q m cq)
  exact h1.other (HR5.out.set 0 (.slice q m cq)) (by decide) (by decide) (by decide) 1 (.slice none 0 0)
end Go.Proofs.YtjpccmiaimkmbaaGreat


namespace Go.Proofs.YtjpccmiaimkmbaaGreat
open Go.RowKit Tnr Tnt

def deepT (ns : List Nd) : Nat := match ordT ns with
  | none => 0
  | some l => (gf l (ns.length - 1)).2
def ofT (ns : List Nd) (at_ : Int) : List Nd := match ordT ns with
  | none => []
  | some l => if 0 ≤ at_ ∧ at_ < ns.length then covN ns (gf l at_.toNat).1 at_.toNat else []
theorem ordT_len {ns : List Nd} {l : List (Nat × Nat)} (h : ordT ns = some l) : 1 ≤ ns.length ∧ ns.length ≤ 4000 := by
  unfold ordT at h
  by_cases hc : ns.length = 0 ∨ 4000 < ns.length
  · rw [if_pos hc] at h; cases h
  · omega

set_option maxHeartbeats 800000 in
set_option maxRecDepth 100000 in
theorem deepT_any (p : Option Addr) (n c : Nat) (xs : List NV) (names : Value) (w : World) (hn : n = xs.length) (hnm : n ≤ 1000000000) (hp : SlN w p xs) (hf : Few xs) :
    Calls Tryz.prog 30 #[.agg #[.slice p n c, names]] w fun e w' => e = .returned (.int .i64 (deepT (nds xs) : Nat)) ∧ Below w.heap.size w w' := by
  obtain ⟨W1, hW1⟩ : ∃ W, W = w.alloc (.cells #[.slice p n c, names] 34) := ⟨_, rfl⟩
  have hb1 : Below w.heap.size w W1 := by rw [hW1]; exact bl_alloc _ _
  have HO := Lib.hid (ordered_any p n c xs names W1 hn hnm (hp.below hb1) hf)
  have HB1 := Lib.hid hb1
  have HW1 := Lib.hid hW1
  have HN := Lib.hid hn
  clear hp hf hb1 hW1 hn hnm
  go_enter Tryz.func30, Tryz.ntmps30
  go_wp2_with fail
  rw [← HW1.out]
  refine HO.out.mono ?_
  rintro e w5 ⟨hb5, ⟨ho, a0, n0, c0, a1, n1, c1, a2, n2, c2, rfl⟩ | ⟨l, pf, cf, pd, cd, ho, hl, hF, rfl, hfs, hds⟩⟩
  · have HOR := Lib.hid ho
    have HB5 := Lib.hid (bl_trans HB1.out hb5)
    clear ho hb5
    go_wp2
    go_ret
    exact ⟨by unfold deepT; rw [HOR.out]; rfl, bl_trans HB5.out (bl_alloc _ _)⟩
  · obtain ⟨h1, h4⟩ := ordT_len ho
    rw [nds_length, ← HN.out] at h1 h4
    have hba := bl_alloc w5 (.cells #[.slice p n c, .slice pf n cf, .slice pd n cd] 67)
    have HD := Lib.hid (deep_any (.slice p n c) pf pd n cf cd l W1.heap.size (w5.alloc (.cells #[.slice p n c, .slice pf n cf, .slice pd n cd] 67)) hl h1 h4 (ownZ_below hds hba))
    have HB5 := Lib.hid (bl_trans (bl_trans HB1.out hb5) hba)
    have HE : Hid (deepT (nds xs) = (gf l (n - 1)).2) := by show _ = _; unfold deepT; rw [ho]; simp only [nds_length, ← HN.out]
    clear ho hl hF hfs hds hb5 hba h1 h4
    go_wp2_with fail
    refine HD.out.mono ?_
    rintro e w6 ⟨rfl, hb6⟩
    have HB6 := Lib.hid (bl_trans HB5.out hb6)
    clear hb6
    go_wp2
    go_ret
    exact ⟨by rw [HE.out]; rfl, HB6.out⟩

def TreePost (w : World) (L : List Nd) (e : Ending) (w' : World) : Prop :=
  ∃ q m cq ys, m = ys.length ∧ e = .returned (.agg #[.slice q m cq, .slice none 0 0]) ∧ OwnN w' w.heap.size (.slice q m cq) ys ∧ nds ys = L ∧ Below w.heap.size w w'

set_option maxHeartbeats 1600000 in
set_option maxRecDepth 100000 in
theorem of_any (p : Option Addr) (n c : Nat) (xs : List NV) (names : Value) (x : Int) (w : World) (hn : n = xs.length) (hnm : n ≤ 1000000000) (hc : n ≤ c) (hcm : c ≤ 9223372036854775807) (hp : SlN w p xs) (hf : Few xs) :
    Calls Tryz.prog 12 #[.agg #[.slice p n c, names], .int .i64 x] w (TreePost w (ofT (nds xs) x)) := by
  obtain ⟨W2, hW2⟩ : ∃ W, W = (w.alloc (.cells #[.slice p n c, names] 34)).alloc (.cells #[.slice none 0 0, .slice none 0 0] 34) := ⟨_, rfl⟩
  have hb2 : Below w.heap.size w W2 := by rw [hW2]; exact bl_trans (bl_alloc _ _) (bl_alloc _ _)
  have hR : Bx W2 (w.heap.size + 1) 34 #[.slice none 0 0, .slice none 0 0] := by
    have h := Bx.new (w.alloc (.cells #[.slice p n c, names] 34)) 34 #[.slice none 0 0, .slice none 0 0]
    rw [World.size_alloc] at h; rw [hW2]; exact h
  have HO := Lib.hid (ordered_any p n c xs names W2 hn hnm (hp.below hb2) hf)
  have hcc : (w.alloc (.cells #[.slice p n c, names] 34)).heap.size = w.heap.size + 1 := by simp
  have HB2 := Lib.hid hb2
  have HW2 := Lib.hid hW2
  have HR := Lib.hid hR
  have HN := Lib.hid hn
  have HP := Lib.hid hp
  have HF := Lib.hid hf
  have HC := Lib.hid (And.intro hc hcm)
  have hnI : (n : Int) ≤ 1000000000 := by omega
  clear hp hf hb2 hW2 hn hnm hcc hR hc hcm
  go_enter Tryz.func12, Tryz.ntmps12
  go_wp2_with fail
  rw [← HW2.out]
  refine HO.out.mono ?_
  rintro e w5 ⟨hb5, ⟨ho, a0, n0, c0, a1, n1, c1, a2, n2, c2, rfl⟩ | ⟨l, pf, cf, pd, cd, ho, hl, hF, rfl, hfs, hds⟩⟩
  · have hba := bl_alloc w5 (.cells #[.slice a0 n0 c0, .slice a1 n1 c1, .slice a2 n2 c2] 67)
    have hR5 := (HR.out.below hb5).below hba
    have k0 : (w5.alloc (.cells #[.slice a0 n0 c0, .slice a1 n1 c1, .slice a2 n2 c2] 67)).cell? ⟨w.heap.size + 1, 0, none⟩ = some (.slice none 0 0) := hR5.cell rfl
    have k1 : (w5.alloc (.cells #[.slice a0 n0 c0, .slice a1 n1 c1, .slice a2 n2 c2] 67)).cell? ⟨w.heap.size + 1, 1, none⟩ = some (.slice none 0 0) := hR5.cell rfl
    have f0 := hR5.free 0
    have f1 := hR5.free 1
    have HR5 := Lib.hid hR5
    have HE : Hid (ofT (nds xs) x = []) := by show _ = _; unfold ofT; rw [ho]
    have HB5 := Lib.hid (bl_trans (bl_trans HB2.out hb5) hba)
    clear ho hb5 hR5 hba
    go_wp2
    have hR6 := (HR5.out.set 0 (.slice none 0 0)).set 1 (.slice none 0 0)
    have z0 := hR6.cell (i := 0) (v := .slice none 0 0) rfl
    have z1 := hR6.cell (i := 1) (v := .slice none 0 0) rfl
    refine bodyPost_ret (v := .agg #[.slice none 0 0, .slice none 0 0]) (by simp [results, Tryz.results12, go_sem, z0, z1]) rfl ?_
    exact ⟨none, 0, 0, [], rfl, rfl, ownN_nil _ _, by rw [HE.out]; rfl, (HB5.out.setCell (p := ⟨w.heap.size + 1, 0, none⟩) (Nat.le_succ _) _).setCell (p := ⟨w.heap.size + 1, 1, none⟩) (Nat.le_succ _) _⟩
  · obtain ⟨h1, h4⟩ := ordT_len ho
    rw [nds_length, ← HN.out] at h1 h4
    have hba := bl_alloc w5 (.cells #[.slice p n c, .slice pf n cf, .slice pd n cd] 67)
    have hR5 := (HR.out.below hb5).below hba
    have k0 : (w5.alloc (.cells #[.slice p n c, .slice pf n cf, .slice pd n cd] 67)).cell? ⟨w.heap.size + 1, 0, none⟩ = some (.slice none 0 0) := hR5.cell rfl
    have k1 : (w5.alloc (.cells #[.slice p n c, .slice pf n cf, .slice pd n cd] 67)).cell? ⟨w.heap.size + 1, 1, none⟩ = some (.slice none 0 0) := hR5.cell rfl
    have f0 := hR5.free 0
    have f1 := hR5.free 1
    have HR5 := Lib.hid hR5
    have HB5 := Lib.hid (bl_trans (bl_trans HB2.out hb5) hba)
    by_cases hx : 0 ≤ x ∧ x < (n : Int)
    · obtain ⟨k, rfl⟩ : ∃ k : Nat, x = (k : Nat) := ⟨x.toNat, by omega⟩
      have hkn : k < n := by omega
      have hkI : (k : Int) < n := by omega
      have hk0 : (decide (((k : Nat) : Int) < 0)) = false := by rw [decide_eq_false_iff_not]; omega
      have hkg : (decide ((n : Int) ≤ ((k : Nat) : Int))) = false := by rw [decide_eq_false_iff_not]; omega
      have HE : Hid (ofT (nds xs) (k : Nat) = covN (nds xs) (gf l k).1 k) := by
        show _ = _
        unfold ofT
        rw [ho]
        simp only [nds_length, ← HN.out, if_pos hx, Int.toNat_natCast]
      have HCV := Lib.hid (covered_any p pf pd n c cf cd k xs l W2.heap.size (w5.alloc (.cells #[.slice p n c, .slice pf n cf, .slice pd n cd] 67)) HN.out hl h4 HC.out.1 HC.out.2 hkn hF ((HP.out.below (bl_trans HB2.out hb5)).below hba) HF.out (ownZ_below hfs hba))
      clear ho hl hF hfs hds hb5 hba h1 h4 hR5 hx hkn
      go_wp2_with fail
      refine HCV.out.mono ?_
      rintro e w6 ⟨q, m, cq, ys, hm6, rfl, ho6, hy6, hb6⟩
      have hR6 := HR5.out.below hb6
      have j0 : w6.cell? ⟨w.heap.size + 1, 0, none⟩ = some (.slice none 0 0) := hR6.cell rfl
      have j1 : w6.cell? ⟨w.heap.size + 1, 1, none⟩ = some (.slice none 0 0) := hR6.cell rfl
      have g0 := hR6.free 0
      have g1 := hR6.free 1
      have HR6 := Lib.hid hR6
      have HO6 := Lib.hid (ho6.down HB5.out.size)
      have HM6 := Lib.hid (And.intro hm6 hy6)
      have HB6 := Lib.hid (bl_trans HB5.out hb6)
      clear hR6 ho6 hm6 hy6 hb6 k0 k1 f0 f1
      go_wp2
      have hR7 := (HR6.out.set 0 (.slice q m cq)).set 1 (.slice none 0 0)
      have z0 := hR7.cell (i := 0) (v := .slice q m cq) rfl
      have z1 := hR7.cell (i := 1) (v := .slice none 0 0) rfl
      refine bodyPost_ret (v := .agg #[.slice q m cq, .slice none 0 0]) (by simp [results, Tryz.results12, go_sem, z0, z1]) rfl ?_
      refine ⟨q, m, cq, ys, HM6.out.1, rfl, ?_, by rw [HE.out]; exact HM6.out.2, (HB6.out.setCell (p := ⟨w.heap.size + 1, 0, none⟩) (Nat.le_succ _) _).setCell (p := ⟨w.heap.size + 1, 1, none⟩) (Nat.le_succ _) _⟩
      exact (HO6.out.other HR6.out (by decide) (by decide) (by decide) 0 (.slice q m cq)).other (HR6.out.set 0 (.slice q m cq)) (by decide) (by decide) (by decide) 1 (.slice none 0 0)
    · have HE : Hid (ofT (nds xs) x = []) := by
        show _ = _
        unfold ofT
        rw [ho]
        simp only [nds_length, ← HN.out, if_neg hx]
      by_cases hx0 : x < 0
      · have hk0 : (decide (x < 0)) = true := by rw [decide_eq_true_eq]; exact hx0
        clear ho hl hF hfs hds hb5 hba h1 h4 hR5 hx hx0
        go_wp2
        have hR6 := (HR5.out.set 0 (.slice none 0 0)).set 1 (.slice none 0 0)
        have z0 := hR6.cell (i := 0) (v := .slice none 0 0) rfl
        have z1 := hR6.cell (i := 1) (v := .slice none 0 0) rfl
        refine bodyPost_ret (v := .agg #[.slice none 0 0, .slice none 0 0]) (by simp [results, Tryz.results12, go_sem, z0, z1]) rfl ?_
        exact ⟨none, 0, 0, [], rfl, rfl, ownN_nil _ _, by rw [HE.out]; rfl, (HB5.out.setCell (p := ⟨w.heap.size + 1, 0, none⟩) (Nat.le_succ _) _).setCell (p := ⟨w.heap.size + 1, 1, none⟩) (Nat.le_succ _) _⟩
      · have hk0 : (decide (x < 0)) = false := by rw [decide_eq_false_iff_not]; exact hx0
        have hkg : (decide ((n : Int) ≤ x)) = true := by rw [decide_eq_true_eq]; omega
        clear ho hl hF hfs hds hb5 hba h1 h4 hR5 hx hx0
        go_wp2
        have hR6 := (HR5.out.set 0 (.slice none 0 0)).set 1 (.slice none 0 0)
        have z0 := hR6.cell (i := 0) (v := .slice none 0 0) rfl
        have z1 := hR6.cell (i := 1) (v := .slice none 0 0) rfl
        refine bodyPost_ret (v := .agg #[.slice none 0 0, .slice none 0 0]) (by simp [results, Tryz.results12, go_sem, z0, z1]) rfl ?_
        exact ⟨none, 0, 0, [], rfl, rfl, ownN_nil _ _, by rw [HE.out]; rfl, (HB5.out.setCell (p := ⟨w.heap.size + 1, 0, none⟩) (Nat.le_succ _) _).setCell (p := ⟨w.heap.size + 1, 1, none⟩) (Nat.le_succ _) _⟩
end Go.Proofs.YtjpccmiaimkmbaaGreat


namespace Go.Proofs.YtjpccmiaimkmbaaGreat
open Go.RowKit Tnr Tnt

theorem rk_cons (F : Nat → Nat × Nat) (k : Int) (ks : List Int) (f d : Nat) : rk F (k :: ks) f d = if f = 0 ∨ k ≠ (f : Int) - 1 then none else rk F ks (F (f - 1)).1 (max d (F (f - 1)).2) := rfl
theorem rk_congr {F G : Nat → Nat × Nat} : ∀ {ks : List Int} {f d : Nat}, (∀ j, j < f → F j = G j) → (∀ j, j < f → (F j).1 ≤ j) → rk F ks f d = rk G ks f d
  | [], _, _, _, _ => rfl
  | k :: ks, f, d, h, hl => by
    rw [rk_cons, rk_cons]
    by_cases hc : f = 0 ∨ k ≠ (f : Int) - 1
    · rw [if_pos hc, if_pos hc]
    · rw [if_neg hc, if_neg hc, h (f - 1) (by omega)]
      have h1 := hl (f - 1) (by omega)
      rw [h (f - 1) (by omega)] at h1
      exact rk_congr (fun j hj => h j (by omega)) (fun j hj => hl j (by omega))
theorem rk_mem {F : Nat → Nat × Nat} : ∀ {ks : List Int} {f d f1 d1 : Nat}, (∀ j, j < f → (F j).1 ≤ j) → rk F ks f d = some (f1, d1) → ∀ k ∈ ks, 0 ≤ k ∧ k < (f : Int)
  | [], _, _, _, _, _, _ => fun k h => by simp at h
  | x :: ks, f, d, f1, d1, hl, h => by
    rw [rk_cons] at h
    by_cases hc : f = 0 ∨ x ≠ (f : Int) - 1
    · rw [if_pos hc] at h; cases h
    · rw [if_neg hc] at h
      have h1 := hl (f - 1) (by omega)
      intro k hk
      rcases List.mem_cons.1 hk with rfl | hk
      · omega
      · have := rk_mem (fun j hj => hl j (by omega)) h k hk
        omega
def OrdOk (ns : List Nd) (l : List (Nat × Nat)) : Prop :=
  l.length = ns.length ∧ FOk (gf l) ns.length ∧ ∀ i (h : i < ns.length), ∃ d, rk (gf l) ns[i].kids.reverse i 0 = some ((gf l i).1, d) ∧ (gf l i).2 = d + 1
theorem gf_append_lt {l m : List (Nat × Nat)} {i : Nat} (h : i < l.length) : gf (l ++ m) i = gf l i := by
  unfold gf
  rw [List.getD_eq_getElem?_getD, List.getD_eq_getElem?_getD, List.getElem?_append_left h]
theorem ordG_spec : ∀ (ns : List Nd) (acc l : List (Nat × Nat)), FOk (gf acc) acc.length → ordG ns acc = some l →
    (∃ m, l = acc ++ m) ∧ l.length = acc.length + ns.length ∧ FOk (gf l) l.length ∧ ∀ i (h : i < ns.length), ∃ d, rk (gf l) ns[i].kids.reverse (acc.length + i) 0 = some ((gf l (acc.length + i)).1, d) ∧ (gf l (acc.length + i)).2 = d + 1
  | [], acc, l, hF, h => by
    simp only [ordG, Option.some.injEq] at h
    subst h
    exact ⟨⟨[], by simp⟩, by simp, hF, fun i h => by simp at h⟩
  | n :: ns, acc, l, hF, h => by
    cases hr : rk (gf acc) n.kids.reverse acc.length 0 with
    | none => rw [ordG_none hr] at h; cases h
    | some x =>
      obtain ⟨f, d⟩ := x
      rw [ordG_cons hr] at h
      obtain ⟨h1, h2⟩ := rk_le hF (Nat.le_refl _) (Nat.zero_le _) hr
      have hF2 := fok_snoc rfl hF h1 h2
      obtain ⟨⟨m, hm⟩, hlen, hF3, hall⟩ := ordG_spec ns (acc ++ [(f, d + 1)]) l (by rw [List.length_append]; exact hF2) h
      have hlt : ∀ j, j < acc.length → gf l j = gf acc j := fun j hj => by rw [hm, List.append_assoc, gf_append_lt hj]
      have heq : gf l acc.length = (f, d + 1) := by
        rw [hm, gf_append_lt (by rw [List.length_append]; simp), gf_snoc_eq]
      refine ⟨⟨(f, d + 1) :: m, by rw [hm, List.append_assoc]; rfl⟩, by rw [hlen, List.length_append]; simp; omega, hF3, fun i hi => ?_⟩
      cases i with
      | zero =>
        refine ⟨d, ?_, by rw [Nat.add_zero, heq]⟩
        rw [Nat.add_zero, heq]
        rw [← hr]
        exact (rk_congr (fun j hj => (hlt j hj).symm) (fun j hj => (hF j hj).1)).symm
      | succ i =>
        obtain ⟨d2, h3, h4⟩ := hall i (by simpa using hi)
        rw [List.length_append, show acc.length + [(f, d + 1)].length + i = acc.length + (i + 1) by simp; omega] at h3 h4
        exact ⟨d2, h3, h4⟩
theorem ordT_ok {ns : List Nd} {l : List (Nat × Nat)} (h : ordT ns = some l) : OrdOk ns l ∧ (gf l (ns.length - 1)).1 = 0 ∧ 1 ≤ ns.length ∧ ns.length ≤ 4000 := by
  have hlen := ordT_len h
  unfold ordT at h
  rw [if_neg (by omega)] at h
  cases hg : ordG ns [] with
  | none => rw [hg] at h; cases h
  | some m =>
    rw [hg] at h
    simp only at h
    by_cases h0 : (gf m (ns.length - 1)).1 = 0
    · rw [if_pos h0] at h
      simp only [Option.some.injEq] at h
      subst h
      obtain ⟨_, h2, h3, h4⟩ := ordG_spec ns [] m (fun j hj => absurd hj (Nat.not_lt_zero _)) hg
      rw [List.length_nil, Nat.zero_add] at h2
      refine ⟨⟨h2, by rw [h2] at h3; exact h3, fun i hi => ?_⟩, h0, hlen⟩
      obtain ⟨d, h5, h6⟩ := h4 i hi
      rw [List.length_nil, Nat.zero_add] at h5 h6
      exact ⟨d, h5, h6⟩
    · rw [if_neg h0] at h; cases h
theorem ordOk_kid {ns : List Nd} {l : List (Nat × Nat)} (h : OrdOk ns l) {i : Nat} (hi : i < ns.length) : ∀ k ∈ ns[i].kids, 0 ≤ k ∧ k < (i : Int) := by
  obtain ⟨d, h1, _⟩ := h.2.2 i hi
  have := rk_mem (fun j hj => (h.2.1 j (by omega)).1) h1
  intro k hk
  exact this k (by simpa using hk)
end Go.Proofs.YtjpccmiaimkmbaaGreat

