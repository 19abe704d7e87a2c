/- The walk of the law that each way to write a code point as an escape is read as it. -/
import Derived.Test.YtnedbeomflllcaaZv
import Derived.Deep.CutBlock
namespace Go.Proofs.Ytnedbeomflllcaa
open Go.RowKit Tnd

def pk9 (x : Int) : Nat := (if Int.tmod x 9 < 0 then Int.tmod x 9 + 9 else Int.tmod x 9).toNat
theorem pk9_lt (x : Int) : pk9 x < 9 := by
  have := tmod_range x 9 (by omega)
  unfold pk9
  split <;> omega
set_option maxHeartbeats 800000 in
set_option maxRecDepth 100000 in
theorem pick9 (x : Int) (w : World) :
    Calls Try.prog 5 #[.int .i64 x, .int .i64 9] w fun e w' => e = .returned (.int .i64 (pk9 x : Nat)) ∧ w' = w := by
  obtain ⟨h1, h2⟩ := tmod_range x 9 (by omega)
  unfold pk9
  obtain ⟨y, hy⟩ : ∃ y, y = Int.tmod x 9 := ⟨_, rfl⟩
  rw [← hy] at h1 h2 ⊢
  have hw : Int.tmod x 9 = y := hy.symm
  clear hy
  by_cases h : y < 0
  · rw [if_pos h]
    have HE : Hid ((((y + 9).toNat : Nat) : Int) = y + 9) := by show _ = _; omega
    go_enter Try.func5, Try.ntmps5
    go_wp2
    go_ret
    refine ⟨?_, rfl⟩
    rw [HE.out]; rfl
  · rw [if_neg h]
    have h' : 0 ≤ y := by omega
    have HE : Hid (((y.toNat : Nat) : Int) = y) := by show _ = _; omega
    go_enter Try.func5, Try.ntmps5
    go_wp2
    go_ret
    exact ⟨ret_int (by omega), rfl⟩
theorem cell_keep {w W : World} (hb : Below w.heap.size w W) {a : Addr} {v : Value} (h : w.cell? a = some v) : W.cell? a = some v := by
  rw [hb.cell (World.block_lt_of_cell? w _ h)]; exact h
/-- ways so far: so many at most. -/
def WS (w : World) (p : Nat) (r : List Int) (k : Nat) (v : Value) (wx : World) : Prop :=
  ∃ q c vs L, v = .slice q vs.length c ∧ Ways wx w.heap.size (.slice q vs.length c) vs L ∧ GoodW p r L ∧ L.length ≤ k ∧ Below w.heap.size w wx
theorem WS.below {w wx wy : World} {p : Nat} {r : List Int} {k : Nat} {v : Value} (h : WS w p r k v wx) (hb : Below wx.heap.size wx wy) : WS w p r k v wy := by
  obtain ⟨q, c, vs, L, h1, h2, h3, h4, h5⟩ := h
  exact ⟨q, c, vs, L, h1, h2.below hb, h3, h4, bl_trans h5 hb⟩
theorem WS.le {w wx : World} {p : Nat} {r : List Int} {k m : Nat} {v : Value} (h : WS w p r k v wx) (hm : k ≤ m) : WS w p r m v wx := by
  obtain ⟨q, c, vs, L, h1, h2, h3, h4, h5⟩ := h
  exact ⟨q, c, vs, L, h1, h2, h3, Nat.le_trans h4 hm, h5⟩
theorem WS.bl {w wx : World} {p : Nat} {r : List Int} {k : Nat} {v : Value} (h : WS w p r k v wx) : Below w.heap.size w wx := by
  obtain ⟨q, c, vs, L, h1, h2, h3, h4, h5⟩ := h
  exact h5
theorem ws_new {w wx : World} {p : Nat} {r W : List Int} {u : Value} {k : Nat} (hk : 1 ≤ k) (hu : OwnI wx w.heap.size u W) (hW : Way p r W) (hb : Below w.heap.size w wx) : WS w p r k (.slice (some ⟨wx.heap.size, 0, none⟩) 1 1) (wx.alloc (.cells #[u] 22)) := by
  refine ⟨some ⟨wx.heap.size, 0, none⟩, 1, [u], [W], rfl, ways_new [u] [W] 1 rfl rfl (by decide) (fun i hi => ?_) hb.size rfl rfl, fun i hi => ?_, hk, hb.alloc hb.size _⟩
  · obtain rfl : i = 0 := by omega
    exact hu
  · obtain rfl : i = 0 := by simpa using hi
    exact hW
theorem ws_run {w wx : World} {p : Nat} {r W : List Int} {u v : Value} {k m : Nat} (T : TypeId) (h : WS w p r k v wx) (hW : Way p r W) (hu : OwnI wx w.heap.size u W) (hk : k + 1 ≤ m) (hm : m ≤ 5000) :
    ∃ v' w', (Builtin.append_ #[26, 26] T #[v, .slice (some ⟨wx.heap.size, 0, none⟩) 1 1]).run Try.prog (wx.alloc (.cells #[u] 22)) = .ok v' w' ∧ WS w p r m v' w' ∧ ∀ (B' : Nat) (u' : Value) (l' : List Int), OwnI wx B' u' l' → OwnI w' B' u' l' := by
  obtain ⟨q, c, vs, L, rfl, h2, h3, h4, h5⟩ := h
  have ho1 : u.oneCell' = true := by
    obtain ⟨q2, c2, rfl, _⟩ := ownI_form hu
    rfl
  obtain ⟨v', w', g1, g2, g3⟩ := run_ways (cq := 1) (k := 1) (us := [u]) (ls := [W]) T (h2.below (bl_alloc wx (.cells #[u] 22))) rfl rfl (fun i hi => by
    have : i = 0 := by omega
    subst this
    exact ownI_below hu (bl_alloc _ _)) (MapKept.heap_alloc wx _).1 rfl (by simpa using ho1) (by omega) (by rw [size_alloc]; have := h5.size; omega)
  obtain ⟨q2, c2, rfl⟩ := g2.form
  exact ⟨_, w', g1, ⟨q2, c2, vs ++ [u], L ++ [W], rfl, g2, h3.more hW, by rw [List.length_append]; simp only [List.length_cons, List.length_nil]; omega, Ways.keep (h5.alloc h5.size _) (h2.below (bl_alloc _ _)) g3⟩, fun B' u' l' ho => ownI_kept (ownI_below ho (bl_alloc wx (.cells #[u] 22))) g3 (ways_ne (h2.below (bl_alloc wx (.cells #[u] 22))).out (ownI_below ho (bl_alloc wx (.cells #[u] 22))))⟩
theorem ws_run2 {w wx : World} {p : Nat} {r W V : List Int} {u t v : Value} {k m : Nat} (T : TypeId) (h : WS w p r k v wx) (hW : Way p r W) (hV : Way p r V) (hu : OwnI wx w.heap.size u W) (ht : OwnI wx w.heap.size t V) (hk : k + 2 ≤ m) (hm : m ≤ 5000) :
    ∃ v' w', (Builtin.append_ #[26, 26] T #[v, .slice (some ⟨wx.heap.size, 0, none⟩) 2 2]).run Try.prog (wx.alloc (.cells #[u, t] 22)) = .ok v' w' ∧ WS w p r m v' w' := by
  obtain ⟨q, c, vs, L, rfl, h2, h3, h4, h5⟩ := h
  have ho1 : u.oneCell' = true := by
    obtain ⟨q2, c2, rfl, _⟩ := ownI_form hu
    rfl
  have ho2 : t.oneCell' = true := by
    obtain ⟨q2, c2, rfl, _⟩ := ownI_form ht
    rfl
  obtain ⟨v', w', g1, g2, g3⟩ := run_ways (cq := 2) (k := 2) (us := [u, t]) (ls := [W, V]) T (h2.below (bl_alloc wx (.cells #[u, t] 22))) rfl rfl (fun i hi => by
    have : i = 0 ∨ i = 1 := by omega
    rcases this with rfl | rfl
    · exact ownI_below hu (bl_alloc _ _)
    · exact ownI_below ht (bl_alloc _ _)) (MapKept.heap_alloc wx _).1 rfl (by simp [ho1, ho2]) (by omega) (by rw [size_alloc]; have := h5.size; omega)
  obtain ⟨q2, c2, rfl⟩ := g2.form
  exact ⟨_, w', g1, q2, c2, vs ++ [u, t], L ++ [W, V], rfl, g2, h3.more2 hW hV, by rw [List.length_append]; simp only [List.length_cons, List.length_nil]; omega, Ways.keep (h5.alloc h5.size _) (h2.below (bl_alloc _ _)) g3⟩
theorem join_row {wx w3 w5 : World} {v : Value} {M A : List Int} {q : Option Addr} {c : Nat} (T : TypeId) (hb : Below wx.heap.size wx w3) (ho : OwnI w3 wx.heap.size v M) (hb5 : Below w3.heap.size w3 w5) (hs : SlI w5 q A) (hq : q = none → c = 0) (hl : M.length + A.length ≤ 1000000) :
    ∃ q6 c6 w6, (Builtin.append_ #[22, 22] T #[v, .slice q A.length c]).run Try.prog w5 = .ok (.slice q6 (M ++ A).length c6) w6 ∧ OwnI w6 wx.heap.size (.slice q6 (M ++ A).length c6) (M ++ A) ∧ Below wx.heap.size wx w6 := by
  have hbx : Below wx.heap.size wx w5 := bl_trans hb hb5
  have ho5 := ownI_below ho hb5
  obtain ⟨v', w', g1, g2, g3⟩ := run_joinI (cq := c) T ho5 hs hq hl hbx.size
  obtain ⟨q6, c6, rfl, _⟩ := ownI_form g2
  exact ⟨q6, c6, w', g1, g2, bl_keep hbx ho5 g3⟩
theorem lit_sl (w : World) (l : List Int) {cs : Array Value} (hcs : cs = (l.map (Value.int .i64)).toArray) : SlI (w.alloc (.cells cs 3)) (some ⟨w.heap.size, 0, none⟩) l := sli_block l (MapKept.heap_alloc w _).1 hcs

set_option maxHeartbeats 6400000 in
set_option maxRecDepth 100000 in
theorem ways_true (y z : Int) (q : Option Addr) (r : List Int) (c : Nat) (w : World) (hs : SlI w q r) (hq : q = none → c = 0) (hlc : r.length ≤ c) (hcm : c ≤ 9223372036854775807) :
    Calls Try.prog 3 #[.int .i64 y, .int .i64 z, .slice q r.length c] w fun e w' => e = .returned (.bool true) ∧ Below w.heap.size w w' := by
  obtain ⟨n, hn⟩ : ∃ n, n = r.length := ⟨_, rfl⟩
  rw [← hn] at hlc ⊢
  have hnI : (n : Int) ≤ 9223372036854775807 := by omega
  have HSL := Lib.hid hs
  have HQ := Lib.hid hq
  have HN := Lib.hid hn
  clear hs hq hn hlc hcm
  by_cases h1 : y < 0
  · go_enter Try.func3, Try.ntmps3
    go_wp2_with fail
    refine (awake_true _).mono ?_
    rintro e w1 ⟨rfl, hb⟩
    have HB1 := Lib.hid hb
    clear hb
    go_wp2
    go_ret
    exact ⟨rfl, HB1.out⟩
  by_cases h2 : 1114111 < y
  · go_enter Try.func3, Try.ntmps3
    go_wp2_with fail
    refine (awake_true _).mono ?_
    rintro e w1 ⟨rfl, hb⟩
    have HB1 := Lib.hid hb
    clear hb
    go_wp2
    go_ret
    exact ⟨rfl, HB1.out⟩
  obtain ⟨p, rfl⟩ : ∃ p : Nat, y = (p : Int) := ⟨y.toNat, by omega⟩
  have hpI : (p : Int) ≤ 1114111 := by omega
  have HP : Hid (p ≤ 1114111) := by show _ ≤ _; omega
  clear h1 h2
  by_cases h3 : 300 < n
  · have h3I : (300 : Int) < n := by omega
    clear h3
    go_enter Try.func3, Try.ntmps3
    go_wp2_with fail
    refine (awake_true _).mono ?_
    rintro e w1 ⟨rfl, hb⟩
    have HB1 := Lib.hid hb
    clear hb
    go_wp2
    go_ret
    exact ⟨rfl, HB1.out⟩
  have h3I : (n : Int) ≤ 300 := by omega
  have HN3 := Lib.hid (show n ≤ 300 by omega)
  clear h3
  go_enter Try.func3, Try.ntmps3
  go_wp2_with fail
  refine (awake_true _).mono ?_
  rintro e w1 ⟨rfl, hb⟩
  have HB1 := Lib.hid hb
  clear hb
  go_wp2_with fail
  refine (pick9 z _).mono ?_
  rintro e w2 ⟨rfl, rfl⟩
  have HK : Hid (pk9 z < 9) := pk9_lt z
  have hkI : ((pk9 z : Nat) : Int) < 9 := by have := HK.out; omega
  generalize pk9 z = k at *
  go_wp2_with fail
  have HX := hex_any p (k + 1) (w2.alloc (.cells #[.int .i64 117, .int .i64 123] 3)) HP.out (by have := HK.out; omega)
  push_cast at HX
  refine HX.mono ?_
  clear HX
  rintro e w3 ⟨q3, c3, rfl, ho3, hb3⟩
  obtain ⟨q4, c4, w4, hr4, ho4, hb4⟩ := join_row 22 (wx := w2) (bl_alloc w2 (.cells #[.int .i64 117, .int .i64 123] 3)) (own_lit w2 w2.heap.size [117, 123] 2 _ rfl rfl (Nat.le_refl _) (by decide)) hb3 (ownI_row ho3).1 (ownI_row ho3).2 (by have := hxs_len 9 p (k + 1) (by have := HP.out; omega) (by have := HK.out; omega); simp only [List.length_cons, List.length_nil]; omega)
  obtain ⟨q5, c5, w5, hr5, ho5, hb5⟩ := join_row 22 (wx := w2) (c := 1) hb4 ho4 (bl_alloc w4 (.cells #[.int .i64 125] 3)) (lit_sl w4 [125] rfl) (fun h => by cases h) (by have := hxs_len 9 p (k + 1) (by have := HP.out; omega) (by have := HK.out; omega); simp only [List.length_append, List.length_cons, List.length_nil]; omega)
  have HWS : Hid (WS w p r 1 (.slice (some ⟨w5.heap.size, 0, none⟩) 1 1) (w5.alloc (.cells #[.slice q5 ([117, 123] ++ hxs p (k + 1) ++ [125]).length c5] 22))) :=
    ws_new (Nat.le_refl _) (ownI_down ho5 HB1.out.size) (way_brace p (k + 1) r HP.out (by omega) (by have := HK.out; omega)) (HB1.out.trans (hb5.mono HB1.out.size))
  have HR4 := Lib.hid hr4
  have HR5 := Lib.hid hr5
  clear hr4 hr5 ho3 ho4 ho5 hb3 hb4 hb5 HB1
  generalize [117, 123] ++ hxs p (k + 1) ++ [125] = M5 at *
  generalize [117, 123] ++ hxs p (k + 1) = M4 at *
  generalize hxs p (k + 1) = M3 at *
  go_wp2_with (at_builtin; refine wpList_append_stop (by rfl) _ _ 22 rfl _ _ _ rfl rfl HR4.out ?_)
  refine Stop.on ?_
  go_wp2_with (at_builtin; refine wpList_append_stop (by rfl) _ _ 22 rfl _ _ _ rfl rfl HR5.out ?_)
  refine Stop.on ?_
  clear HR4 HR5 hpI h3I hkI hnI HK
  go_upto_region 7 with fail
  rename (0 ≤ (p : Int) ∧ (p : Int) ≤ 1114111) ∧ (n : Int) ≤ 300 => hx1
  clear hx1
  generalize w5.alloc (.cells #[.slice q5 M5.length c5] 22) = wx at *
  obtain ⟨D, hD⟩ : ∃ D : Bool, D = decide (p < 65536 ∧ (p < 55296 ∨ 56319 < p ∨ n = 0 ∨ gi r 0 ≠ 92)) := ⟨_, rfl⟩
  have HD := Lib.hid hD
  clear hD
  go_cut [63] from 43 (fun s wz => s = .bool D ∧ wx = wz)
  case first =>
    as_aux_lemma =>
      have hp1 := HP.out
      by_cases g1 : p < 55296
      · have d1 : decide ((p : Int) < 65536) = true := decide_eq_true (by omega)
        have d2 : decide ((p : Int) < 55296) = true := decide_eq_true (by omega)
        have hDv : D = true := by rw [HD.out]; exact decide_eq_true ⟨by omega, .inl g1⟩
        subst hDv
        clear g1 hp1
        go_wp2_with fail
        go_meet
        exact ⟨rfl, rfl⟩
      by_cases g2 : p < 65536
      · have d1 : decide ((p : Int) < 65536) = true := decide_eq_true (by omega)
        have d2 : decide ((p : Int) < 55296) = false := decide_eq_false (by omega)
        by_cases g3 : 56319 < p
        · have d3 : decide ((56319 : Int) < p) = true := decide_eq_true (by omega)
          have hDv : D = true := by rw [HD.out]; exact decide_eq_true ⟨by omega, .inr (.inl g3)⟩
          subst hDv
          clear g1 g2 g3 hp1
          go_wp2_with fail
          go_meet
          exact ⟨rfl, rfl⟩
        · have d3 : decide ((56319 : Int) < p) = false := decide_eq_false (by omega)
          by_cases g4 : n = 0
          · have hDv : D = true := by rw [HD.out]; exact decide_eq_true ⟨by omega, .inr (.inr (.inl g4))⟩
            subst hDv
            have d4 : ((n : Int) == 0) = true := by rw [g4]; rfl
            clear g1 g2 g3 g4 hp1
            go_wp2_with fail
            go_meet
            exact ⟨rfl, rfl⟩
          · have d4 : ((n : Int) == 0) = false := by rw [beq_eq_false_iff_ne]; omega
            obtain ⟨bl, ol, rfl, hcell⟩ : ∃ bl ol, q = some ⟨bl, ol, none⟩ ∧ wx.cell? ⟨bl, ol, none⟩ = some (.int .i64 (gi r 0)) := by
              have hb := HWS.out.bl
              rcases HSL.out with h | ⟨bl, ol, h1, h2⟩
              · have := HN.out; rw [h] at this; exact absurd this g4
              · have h0 := h2 0 (by have := HN.out; omega)
                refine ⟨bl, ol, h1, ?_⟩
                rw [← h0]; exact hb.cell (World.block_lt_of_cell? w _ h0)
            have hn0 : (0 : Int) < n := by omega
            by_cases g5 : gi r 0 = 92
            · have hDv : D = false := by rw [HD.out]; exact decide_eq_false (fun h => by
                rcases h.2 with h | h | h | h
                · exact g1 h
                · exact g3 h
                · exact g4 h
                · exact h g5)
              subst hDv
              rw [g5] at hcell
              clear g1 g2 g3 g4 g5 hp1
              go_wp2_with fail
              go_meet
              exact ⟨rfl, rfl⟩
            · have hDv : D = true := by rw [HD.out]; exact decide_eq_true ⟨by omega, .inr (.inr (.inr g5))⟩
              subst hDv
              have d5 : (gi r 0 != 92) = true := bne_iff_ne.mpr g5
              generalize gi r 0 = g at *
              clear g1 g2 g3 g4 g5 hp1
              go_wp2_with fail
              go_meet
              exact ⟨rfl, rfl⟩
      · have d1 : decide ((p : Int) < 65536) = false := decide_eq_false (by omega)
        have hDv : D = false := by rw [HD.out]; exact decide_eq_false (fun h => g2 h.1)
        subst hDv
        clear g1 g2 hp1
        go_wp2_with fail
        go_meet
        exact ⟨rfl, rfl⟩
  case rest =>
  obtain ⟨rfl, rfl⟩ := hcut

  generalize (.slice (some ⟨w5.heap.size, 0, none⟩) 1 1 : Value) = vx at *
  go_upto_if 63 with fail
  go_cut [8] from 9 (fun v wy => WS w p r 2 v wy)
  case first =>
    as_aux_lemma =>
      cases D with
      | true =>
        have HWAY : Hid (Way p r ([117] ++ hxs p 4)) := by
          have h := of_decide_eq_true HD.out.symm
          refine way_four p r h.1 ?_
          rcases h.2 with h | h | h | h
          · exact .inl h
          · exact .inr (.inl h)
          · exact .inr (.inr (.inl (List.eq_nil_of_length_eq_zero (by rw [← HN.out]; exact h))))
          · exact .inr (.inr (.inr h))
        go_wp2_with fail
        have HX := hex_any p 4 (wx.alloc (.cells #[.int .i64 117] 3)) HP.out (by decide)
        push_cast at HX
        refine HX.mono ?_
        clear HX
        rintro e w3 ⟨q3, c3, rfl, ho3, hb3⟩
        obtain ⟨q4, c4, w4, hr4, ho4, hb4⟩ := join_row 22 (wx := wx) (bl_alloc wx (.cells #[.int .i64 117] 3)) (own_lit wx wx.heap.size [117] 1 _ rfl rfl (Nat.le_refl _) (by decide)) hb3 (ownI_row ho3).1 (ownI_row ho3).2 (by have := hxs_len 9 p 4 (by have := HP.out; omega) (by decide); simp only [List.length_cons, List.length_nil]; omega)
        obtain ⟨v5, w5, hr5, hws5, _⟩ := ws_run (m := 2) 26 (HWS.out.below hb4) HWAY.out (ownI_down ho4 HWS.out.bl.size) (by decide) (by decide)
        have HR4 := Lib.hid hr4
        have HR5 := Lib.hid hr5
        have HWS5 := Lib.hid hws5
        clear hr4 hr5 hws5 ho3 ho4 hb3 hb4 HWAY
        generalize [117] ++ hxs p 4 = M4 at *
        generalize hxs p 4 = M3 at *
        go_wp2_with (at_builtin; refine wpList_append_stop (by rfl) _ _ 22 rfl _ _ _ rfl rfl HR4.out ?_)
        refine Stop.on ?_
        go_wp2_with (at_builtin; refine wpList_append_stop (by rfl) _ _ 26 rfl _ _ _ rfl rfl HR5.out ?_)
        refine Stop.on ?_
        go_wp2_with fail
        go_meet
        exact HWS5.out
      | false =>
        go_wp2_with fail
        go_meet
        exact HWS.out.le (by decide)
  case rest =>
  replace HWS := Lib.hid hcut
  clear hcut
  go_upto_if 72 with fail
  go_cut [8] from 9 (fun v wy => WS w p r 3 v wy)
  case first =>
    as_aux_lemma =>
      by_cases g1 : p < 256
      · have d1 : (p : Int) < 256 := by omega
        have HWAY : Hid (Way p r ([120] ++ hxs p 2)) := way_two p r g1
        clear g1
        go_wp2_with fail
        have HX := hex_any p 2 (wc.alloc (.cells #[.int .i64 120] 3)) HP.out (by decide)
        push_cast at HX
        refine HX.mono ?_
        clear HX
        rintro e w3 ⟨q3, c3, rfl, ho3, hb3⟩
        obtain ⟨q4, c4, w4, hr4, ho4, hb4⟩ := join_row 22 (wx := wc) (bl_alloc wc (.cells #[.int .i64 120] 3)) (own_lit wc wc.heap.size [120] 1 _ rfl rfl (Nat.le_refl _) (by decide)) hb3 (ownI_row ho3).1 (ownI_row ho3).2 (by have := hxs_len 9 p 2 (by have := HP.out; omega) (by decide); simp only [List.length_cons, List.length_nil]; omega)
        obtain ⟨v5, w5, hr5, hws5, _⟩ := ws_run (m := 3) 26 (HWS.out.below hb4) HWAY.out (ownI_down ho4 HWS.out.bl.size) (by decide) (by decide)
        have HR4 := Lib.hid hr4
        have HR5 := Lib.hid hr5
        have HWS5 := Lib.hid hws5
        clear hr4 hr5 hws5 ho3 ho4 hb3 hb4 HWAY
        generalize [120] ++ hxs p 2 = M4 at *
        generalize hxs p 2 = M3 at *
        go_wp2_with (at_builtin; refine wpList_append_stop (by rfl) _ _ 22 rfl _ _ _ rfl rfl HR4.out ?_)
        refine Stop.on ?_
        go_wp2_with (at_builtin; refine wpList_append_stop (by rfl) _ _ 26 rfl _ _ _ rfl rfl HR5.out ?_)
        refine Stop.on ?_
        go_wp2_with fail
        go_meet
        exact HWS5.out
      · have d1 : (256 : Int) ≤ p := by omega
        clear g1
        go_wp2_with fail
        go_meet
        exact HWS.out.le (by decide)
  case rest =>
  replace HWS := Lib.hid hcut
  clear hcut
  go_upto_region 11 with fail
  obtain ⟨D2, hD2⟩ : ∃ D2 : Bool, D2 = decide (0 < p ∧ p < 27) := ⟨_, rfl⟩
  have HD2 := Lib.hid hD2
  clear hD2
  go_cut [85] from 80 (fun s wz => s = .bool D2 ∧ WS w p r 3 u8 wz)
  case first =>
    as_aux_lemma =>
      by_cases g1 : 0 < p
      · have d1 : (0 : Int) < p := by omega
        by_cases g2 : p < 27
        · have d2 : (p : Int) < 27 := by omega
          have hDv : D2 = true := by rw [HD2.out]; exact decide_eq_true ⟨g1, g2⟩
          subst hDv
          clear g1 g2
          go_wp2_with fail
          go_meet
          exact ⟨rfl, HWS.out⟩
        · have d2 : (27 : Int) ≤ p := by omega
          have d3 : decide ((p : Int) < 27) = false := decide_eq_false (by omega)
          have hDv : D2 = false := by rw [HD2.out]; exact decide_eq_false (fun h => g2 h.2)
          subst hDv
          clear g1 g2
          go_wp2_with fail
          go_meet
          exact ⟨rfl, HWS.out⟩
      · have d1 : (p : Int) ≤ 0 := by omega
        have d3 : decide ((0 : Int) < p) = false := decide_eq_false (by omega)
        have hDv : D2 = false := by rw [HD2.out]; exact decide_eq_false (fun h => g1 h.1)
        subst hDv
        clear g1
        go_wp2_with fail
        go_meet
        exact ⟨rfl, HWS.out⟩
  case rest =>
  obtain ⟨rfl, hws⟩ := hcut
  replace HWS := Lib.hid hws
  clear hws
  go_upto_if 85 with fail
  go_cut [8] from 9 (fun v wy => WS w p r 5 v wy)
  case first =>
    as_aux_lemma =>
      cases D2 with
      | true =>
        obtain ⟨g1, g2⟩ := of_decide_eq_true HD2.out.symm
        have HWAY := Lib.hid (way_ctl p r g1 g2)
        have g2I : (p : Int) < 27 := by omega
        obtain ⟨v5, w5, hr5, hws5⟩ := ws_run2 (m := 5) (wx := (wc.alloc (.cells #[.int .i64 99, .int .i64 (64 + (p : Int))] 3)).alloc (.cells #[.int .i64 99, .int .i64 (96 + (p : Int))] 3)) 26 (HWS.out.below (bl_trans (bl_alloc _ _) (bl_alloc _ _))) HWAY.out.1 HWAY.out.2 (ownI_below (own_lit wc w.heap.size [99, 64 + (p : Int)] 2 _ rfl rfl HWS.out.bl.size (by decide)) (bl_alloc _ _)) (own_lit (wc.alloc (.cells #[.int .i64 99, .int .i64 (64 + (p : Int))] 3)) w.heap.size [99, 96 + (p : Int)] 2 _ rfl rfl (by rw [size_alloc]; have := HWS.out.bl.size; omega) (by decide)) (by decide) (by decide)
        rw [size_alloc, size_alloc] at hr5
        have HR5 := Lib.hid hr5
        have HWS5 := Lib.hid hws5
        clear hr5 hws5 HWAY g1 g2
        go_wp2_with (at_builtin; refine wpList_append_stop (by rfl) _ _ 26 rfl _ _ _ rfl rfl HR5.out ?_)
        refine Stop.on ?_
        go_wp2_with fail
        go_meet
        exact HWS5.out
      | false =>
        go_wp2_with fail
        go_meet
        exact HWS.out.le (by decide)
  case rest =>
  replace HWS := Lib.hid hcut
  clear hcut
  go_upto_region 13 with fail
  go_cut [9] from 95 (fun s wz => s = .int .i64 ((55296 + (p - 65536) / 1024 : Nat) : Int) ∧ WS w p r 5 u8 wz)
  case first =>
    as_aux_lemma =>
      have hp1 := HP.out
      obtain ⟨m, hm⟩ : ∃ m, m = (p - 65536) / 1024 := ⟨_, rfl⟩
      have HM := Lib.hid hm
      by_cases g1 : p < 65536
      · have hpI : (p : Int) ≤ 1114111 := by omega
        have d1 : decide ((p : Int) - 65536 < 0) = true := decide_eq_true (by omega)
        have d2 : (p : Int) - 65536 < 0 := by omega
        clear g1 hp1 hm
        go_wp2_with fail
        go_meet
        exact ⟨congrArg (Value.int .i64) (by have := HM.out; omega), HWS.out⟩
      · have hpI : (p : Int) ≤ 1114111 := by omega
        have d1 : decide ((p : Int) - 65536 < 0) = false := decide_eq_false (by omega)
        have d2 : 0 ≤ (p : Int) - 65536 := by omega
        have hq1 : Int.tdiv ((p : Int) - 65536) 1024 = (m : Int) := by
          rw [hm, show (p : Int) - 65536 = ((p - 65536 : Nat) : Int) by omega]
          exact (Int.ofNat_tdiv _ 1024).symm
        have hmI : (m : Int) ≤ 1023 := by omega
        clear g1 hp1 hm
        go_wp2_with fail
        go_meet
        exact ⟨congrArg (Value.int .i64) (by have := HM.out; omega), HWS.out⟩
  case rest =>
  obtain ⟨rfl, hws⟩ := hcut
  replace HWS := Lib.hid hws
  clear hws
  go_upto_block 0 with fail
  go_cut [8] from 9 (fun v wy => WS w p r 1030 v wy)
  case first =>
    as_aux_lemma =>
      have HPP : Hid (∀ W : World, 65535 < p → Calls Try.prog 7 #[.int .i64 ((55296 + (p - 65536) / 1024 : Nat) : Int), .int .i64 (56320 + (((p - 65536) % 1024 : Nat) : Int))] W fun e w' => e = .returned (.tuple #[.int .i64 (p : Int), .bool true]) ∧ W = w') := fun W hp => by
        have h1 := HP.out
        have h2 := pair_yes ((55296 + (p - 65536) / 1024 : Nat) : Int) (56320 + (((p - 65536) % 1024 : Nat) : Int)) W (by unfold PairOk; omega)
        have h3 : pairV ((55296 + (p - 65536) / 1024 : Nat) : Int) (56320 + (((p - 65536) % 1024 : Nat) : Int)) = (p : Int) := by unfold pairV; omega
        rw [h3] at h2
        exact h2
      have HHI : Hid (55296 + (p - 65536) / 1024 < 56320) := by show _ < _; have := HP.out; omega
      generalize hh0 : 55296 + (p - 65536) / 1024 = h0 at *
      have HH0 := Lib.hid hh0
      clear hh0
      go_wp2
      go_loopw [9, 8] (fun hv vv wr => ∃ h : Nat, hv = .int .i64 (h : Nat) ∧ h ≤ 56320 ∧ Hid (h = 56320 ∨ h = h0) ∧ Hid (WS w p r (1030 + h - 56320) vv wr)) (fun hv _ _ => 56320 - (intOf hv).toNat)
      case atStart => exact ⟨h0, rfl, by have := HHI.out; omega, .inr rfl, HWS.out.le (by have := HHI.out; have := HH0.out; omega)⟩
      case round =>
        clear HWS
        obtain ⟨h, rfl, hle, HOR, HWS⟩ := hrel
        rename World => wr
        rename_i vx
        by_cases g1 : h < 56320
        · have d1 : (h : Int) < 56320 := by omega
          by_cases g2 : 65535 < p
          · have d2 : (65535 : Int) < p := by omega
            have e1 : h = h0 := by
              rcases HOR.out with e | e
              · omega
              · exact e
            subst e1
            have hrem : Int.tmod ((p : Int) - 65536) 1024 = (((p - 65536) % 1024 : Nat) : Int) := by
              rw [show (p : Int) - 65536 = ((p - 65536 : Nat) : Int) by omega]
              exact (Int.ofNat_tmod _ 1024).symm
            have HPAIR := Lib.hid (HPP.out wr g2)
            have HWAY : Hid (Way p r ([117] ++ hxs h 4 ++ [92, 117] ++ hxs (56320 + (p - 65536) % 1024) 4)) := by
              have := way_pair p r HP.out g2
              rw [HH0.out] at this
              exact this
            have HML : Hid ((p - 65536) % 1024 < 1024) := Nat.mod_lt _ (by decide)
            have hmI : (((p - 65536) % 1024 : Nat) : Int) < 1024 := by have := HML.out; omega
            have hpI : (p : Int) ≤ 1114111 := by have := HP.out; omega
            generalize (p - 65536) % 1024 = m at *
            clear HPP g1 g2 HOR
            go_wp2_with fail
            refine HPAIR.out.mono ?_
            rintro e w3 ⟨rfl, rfl⟩
            clear hpI hrem
            have HHL : Hid (h < 56320) := by show _ < _; omega
            go_wp2_with fail
            have HX := hex_any h 4 (wr.alloc (.cells #[.int .i64 117] 3)) (by have := HHL.out; omega) (by decide)
            push_cast at HX
            refine HX.mono ?_
            clear HX
            rintro e w3 ⟨q3, c3, rfl, ho3, hb3⟩
            obtain ⟨q4, c4, w4, hr4, ho4, hb4⟩ := join_row 22 (wx := wr) (bl_alloc wr (.cells #[.int .i64 117] 3)) (own_lit wr wr.heap.size [117] 1 _ rfl rfl (Nat.le_refl _) (by decide)) hb3 (ownI_row ho3).1 (ownI_row ho3).2 (by have := hxs_len 9 h 4 (by have := HHL.out; omega) (by decide); simp only [List.length_cons, List.length_nil]; omega)
            obtain ⟨q5, c5, w5, hr5, ho5, hb5⟩ := join_row 22 (wx := wr) (c := 2) hb4 ho4 (bl_alloc w4 (.cells #[.int .i64 92, .int .i64 117] 3)) (lit_sl w4 [92, 117] rfl) (fun h => by cases h) (by have := hxs_len 9 h 4 (by have := HHL.out; omega) (by decide); simp only [List.length_append, List.length_cons, List.length_nil]; omega)
            have HLEN : Hid (([117] ++ hxs h 4 ++ [92, 117]).length ≤ 100) := by
              show _ ≤ _
              have := hxs_len 9 h 4 (by have := HHL.out; omega) (by decide)
              simp only [List.length_append, List.length_cons, List.length_nil]; omega
            have HR4 := Lib.hid hr4
            have HR5 := Lib.hid hr5
            have HO5 := Lib.hid ho5
            have HB5 := Lib.hid hb5
            clear hr4 hr5 ho3 ho4 ho5 hb3 hb4 hb5
            generalize [117] ++ hxs h 4 ++ [92, 117] = M5 at *
            generalize [117] ++ hxs h 4 = M4 at *
            generalize hxs h 4 = M3 at *
            go_wp2_with (at_builtin; refine wpList_append_stop (by rfl) _ _ 22 rfl _ _ _ rfl rfl HR4.out ?_)
            refine Stop.on ?_
            go_wp2_with (at_builtin; refine wpList_append_stop (by rfl) _ _ 22 rfl _ _ _ rfl rfl HR5.out ?_)
            refine Stop.on ?_
            clear HR4 HR5
            go_wp2_with fail
            have HX := hex_any (56320 + m) 4 w5 (by have := HML.out; omega) (by decide)
            rw [show ((56320 + m : Nat) : Int) = 56320 + (m : Int) from rfl] at HX
            refine HX.mono ?_
            clear HX
            rintro e w6 ⟨q6, c6, rfl, ho6, hb6⟩
            obtain ⟨q7, c7, w7, hr7, ho7, hb7⟩ := join_row 22 (wx := wr) HB5.out HO5.out hb6 (ownI_row ho6).1 (ownI_row ho6).2 (by have := hxs_len 9 (56320 + m) 4 (by have := HML.out; omega) (by decide); have := HLEN.out; omega)
            obtain ⟨v8, w8, hr8, hws8, _⟩ := ws_run (m := 1030) 26 (HWS.out.below hb7) HWAY.out (ownI_down ho7 HWS.out.bl.size) (by have := HHL.out; omega) (by decide)
            have HR7 := Lib.hid hr7
            have HR8 := Lib.hid hr8
            have HWS8 := Lib.hid hws8
            clear hr7 hr8 hws8 ho6 ho7 hb6 hb7 HWAY HO5 HB5 HLEN
            generalize M5 ++ hxs (56320 + m) 4 = M7 at *
            generalize hxs (56320 + m) 4 = M6 at *
            go_wp2_with (at_builtin; refine wpList_append_stop (by rfl) _ _ 22 rfl _ _ _ rfl rfl HR7.out ?_)
            refine Stop.on ?_
            go_wp2_with (at_builtin; refine wpList_append_stop (by rfl) _ _ 26 rfl _ _ _ rfl rfl HR8.out ?_)
            refine Stop.on ?_
            go_wp2
            go_roundw
            case rel => exact ⟨56320, by rfl, Nat.le_refl _, .inl rfl, HWS8.out.le (by decide)⟩
            case measure => have := HHL.out; simp [intOf]; omega
          · have d2 : decide ((65535 : Int) < p) = false := decide_eq_false (by omega)
            clear g1 g2
            go_wp2_with fail
            go_meet
            exact HWS.out.le (by omega)
        · have d1 : decide ((h : Int) < 56320) = false := decide_eq_false (by omega)
          clear g1
          go_wp2_with fail
          go_meet
          exact HWS.out.le (by omega)
  case rest =>
  replace HWS := Lib.hid hcut
  clear hcut
  have HSG : Hid (∀ W, Calls Try.prog 8 #[.string ⟨#[94, 36, 92, 46, 42, 43, 63, 40, 41, 91, 93, 123, 125, 124, 47]⟩] W fun e w' => ∃ q c, e = .returned (.slice q (sg ownS).length c) ∧ OwnI w' W.heap.size (.slice q (sg ownS).length c) (sg ownS) ∧ Below W.heap.size W w') := fun W =>
    signs_law ⟨#[94, 36, 92, 46, 42, 43, 63, 40, 41, 91, 93, 123, 125, 124, 47]⟩ W (by decide)
  have HOL : Hid ((sg ownS).length = 15) := by show _ = _; rfl
  have HOW : Hid (∀ i, i < 15 → gi (sg ownS) i = (p : Int) → Way p r [(p : Int)]) := fun i hi h => way_own p r i hi h
  generalize sg ownS = O at *
  go_wp2_with fail
  refine (HSG.out _).mono ?_
  rintro e w3 ⟨q3, c3, rfl, ho3, hb3⟩
  have HO3 := Lib.hid ho3
  replace HWS := Lib.hid (HWS.out.below hb3)
  clear ho3 hb3 HSG
  rw [HOL.out]
  go_wp2
  go_loopw [14, 8] (fun iv vv wr => ∃ i : Nat, i ≤ 15 ∧ iv = .int .i64 (i : Nat) ∧ Hid (WS w p r (1030 + i) vv wr) ∧ Hid (OwnI wr wc.heap.size (.slice q3 O.length c3) O)) (fun iv _ _ => 15 - (intOf iv).toNat)
  case atStart => exact ⟨0, by omega, rfl, HWS.out, HO3.out⟩
  case round =>
    clear HWS HO3
    obtain ⟨i, hi, rfl, HWS, HO3⟩ := hrel
    rename World => wr
    rename_i vx
    by_cases h15 : i < 15
    · have hiI : (i : Int) < 15 := by omega
      have hOL := HOL.out
      obtain ⟨p3, c3', e3, _, _, hne3⟩ := ownI_form HO3.out
      simp only [Value.slice.injEq, true_and] at e3
      obtain ⟨rfl, rfl⟩ := e3
      obtain ⟨g3, rfl, _⟩ := hne3 (by intro e; rw [e] at hOL; simp at hOL)
      have hcell := ownI_cell HO3.out rfl i (by rw [hOL]; exact h15)
      have HHI := Lib.hid h15
      have HO4 := Lib.hid HO3.out
      clear hOL hne3 h15
      by_cases he : gi O i = (p : Int)
      · have HWAY : Hid (Way p r [(p : Int)]) := HOW.out i HHI.out he
        have d1 : (gi O i == (p : Int)) = true := by rw [he]; simp
        obtain ⟨v8, w8, hr8, hws8, hk8⟩ := ws_run (m := 1030 + i + 1) (wx := wr.alloc (.cells #[.int .i64 (p : Int)] 3)) (u := .slice (some ⟨wr.heap.size, 0, none⟩) 1 1) 26 (HWS.out.below (bl_alloc wr (.cells #[.int .i64 (p : Int)] 3))) HWAY.out (own_lit wr w.heap.size [(p : Int)] 1 _ rfl rfl HWS.out.bl.size (by decide)) (Nat.le_refl _) (by have := HHI.out; omega)
        have hO8 := hk8 _ _ _ (ownI_below HO4.out (bl_alloc wr (.cells #[.int .i64 (p : Int)] 3)))
        rw [size_alloc] at hr8
        have HR8 := Lib.hid hr8
        have HWS8 := Lib.hid hws8
        have HO8 := Lib.hid hO8
        clear hr8 hws8 hO8 hk8 he HO3
        generalize gi O i = g at *
        go_wp2_with (at_builtin; refine wpList_append_stop (by rfl) _ _ 26 rfl _ _ _ rfl rfl HR8.out ?_)
        refine Stop.on ?_
        go_wp2
        go_roundw
        case rel => exact ⟨i + 1, by have := HHI.out; omega, by go_num, HWS8.out, HO8.out⟩
        case measure => have := HHI.out; simp [intOf]; omega
      · have d1 : (gi O i == (p : Int)) = false := beq_eq_false_iff_ne.2 he
        clear he
        generalize gi O i = g at *
        go_wp2
        go_roundw
        case rel => exact ⟨i + 1, by have := HHI.out; omega, by go_num, HWS.out.le (by omega), HO4.out⟩
        case measure => have := HHI.out; simp [intOf]; omega
    · have hiI : (15 : Int) ≤ i := by omega
      clear h15
      obtain ⟨q8, c8, vs, L, rfl, hW, hG, hL, hB⟩ := HWS.out
      have HW := Lib.hid hW
      have HGD := Lib.hid hG
      have HBS := Lib.hid hB
      have HVL : Hid (vs.length = L.length) := hW.len
      have HLL : Hid (L.length ≤ 1100) := by show _ ≤ _; omega
      clear hW hG hL hB HWS HO3 HOW
      have hvlI : (vs.length : Int) ≤ 1100 := by have := HVL.out; have := HLL.out; omega
      go_wp2
      go_loopw [15] (fun iv wz => ∃ k : Nat, k ≤ vs.length ∧ iv = .int .i64 (k : Nat) ∧ Hid (Below wr.heap.size wr wz)) (fun iv _ => vs.length - (intOf iv).toNat)
      case atStart => exact ⟨0, Nat.zero_le _, rfl, Below.refl _ _⟩
      case round =>
        obtain ⟨j, hj, rfl, HB⟩ := hrel
        rename World => wz
        by_cases hjv : j < vs.length
        · have hjI : (j : Int) < vs.length := by omega
          obtain ⟨bo, qi, ci, rfl, hcell, howi, hsi, hqi⟩ := (HW.out.below HB.out).at (show j < L.length by rw [← HVL.out]; exact hjv)
          obtain ⟨hes, hlen⟩ := HGD.out j (by rw [← HVL.out]; exact hjv)
          have HCL := Lib.hid hcell
          have HES := Lib.hid hes
          have HJV := Lib.hid hjv
          have hbx : Below w.heap.size w wz := bl_trans HBS.out HB.out
          obtain ⟨q6, c6, w6, hr6, ho6, hb6⟩ := join_row 22 (wx := wz) (c := ci) (bl_alloc wz (.cells #[] 3)) (own_lit wz wz.heap.size [] 0 _ rfl rfl (Nat.le_refl _) (by decide)) (Below.refl _ _) (hsi.below (bl_alloc _ _)) hqi (by simp only [List.length_nil]; omega)
          rw [List.nil_append] at hr6 ho6
          obtain ⟨q7, c7, w7, hr7, ho7, hb7⟩ := join_row 22 (wx := wz) (c := c) hb6 ho6 (Below.refl _ _) (HSL.out.below (bl_trans hbx hb6)) HQ.out (by have := HN.out; have := HN3.out; omega)
          rw [← HN.out] at hr7
          have HNW := Lib.hid (new_own ho7 (by rw [List.length_append]; have := HN.out; have := HN3.out; omega))
          have HR6 := Lib.hid hr6
          have HR7 := Lib.hid hr7
          have HB7 := Lib.hid hb7
          have hc2 := cell_keep (bl_alloc wz (.cells #[] 3)) hcell
          have hwl : ((glw L j).length : Int) ≤ 20 := by omega
          have HWL := Lib.hid hlen
          clear hr6 hr7 ho6 ho7 hb6 hb7 hcell howi hsi hqi hes hlen hjv
          generalize hM7 : glw L j ++ r = M7 at *
          have HM7 := Lib.hid hM7
          clear hM7
          generalize glw L j = Wj at *
          go_wp2_with (at_builtin; refine wpList_append_stop (by rfl) _ _ 22 rfl _ _ _ rfl rfl HR6.out ?_)
          refine Stop.on ?_
          go_wp2_with (at_builtin; refine wpList_append_stop (by rfl) _ _ 22 rfl _ _ _ rfl rfl HR7.out ?_)
          refine Stop.on ?_
          clear HR6 HR7 hc2
          go_wp2_with fail
          refine HNW.out.mono ?_
          rintro e w8 ⟨b, rfl, hsc8, hb8⟩
          have HSC8 := Lib.hid hsc8
          have HB8 : Hid (Below wz.heap.size wz w8) := bl_trans HB7.out hb8
          clear hsc8 hb8 HNW
          go_wp2_with fail
          refine (escape_lit HSC8.out (by rw [List.drop_zero]; exact HES.out)).mono ?_
          rintro e w9 ⟨rfl, hc9, hg9⟩
          have HSC9 : Hid (Sc w9 w7.heap.size b M7 Wj.length) := by rw [Nat.zero_add] at hc9; exact hc9
          have HB9 : Hid (Below wz.heap.size wz w9) := HB8.out.trans (grown_below hg9 (by have h1 := (Cu.le HSC8.out).1; have h2 := HB7.out.size; omega) HB8.out.size)
          clear hc9 hg9 HSC8 HB8
          have HAT : Hid (∀ s, Calls Try.prog 11 #[.pointer (some ⟨b, 0, none⟩)] (w9.drewN s) fun e w' => e = .returned (.int .i64 (Wj.length : Nat)) ∧ w' = w9.drewN s) := fun s => At_scan _ b M7 Wj.length _ (Cu.drewN HSC9.out s)
          have HC9 : Hid (∀ s, (w9.drewN s).cell? ⟨bo, j, none⟩ = some (.slice qi Wj.length ci)) := fun s => cell_keep HB9.out HCL.out
          have hc9 := HC9.out
          have hc90 := HC9.out 0
          have hjI2 : (j : Int) < vs.length := by have := HJV.out; omega
          have HBN : Hid (∀ s, Below wz.heap.size wz (w9.drewN s)) := fun s => bl_trans HB9.out ⟨rfl, rfl, rfl, Nat.le_refl _, fun _ _ => rfl⟩
          go_upto_region 32 with fail

          go_quiet ((go_at_call 11; exact (HAT.out _).mono fun _ _ h => ⟨h.1, _, h.2⟩))
          go_wp2
          go_roundw
          case rel => exact ⟨j + 1, by have := HJV.out; omega, by go_num, HB.out.trans ((HBN.out _).mono HB.out.size)⟩
          case measure => have := HJV.out; simp [intOf]; omega
        · have hjI : (vs.length : Int) ≤ j := by omega
          have HBF := Lib.hid (bl_trans HBS.out HB.out)
          go_wp2
          go_ret
          exact ⟨rfl, HBF.out⟩
end Go.Proofs.Ytnedbeomflllcaa
