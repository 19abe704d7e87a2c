/- Rows of numbers at work, appended to; the walk of a number's hexadecimal digits. -/
import Derived.Test.YtnedbeomflllcaaZu
namespace Go.Proofs.Ytnedbeomflllcaa
open Go.RowKit Tnd

theorem info_ints : (Try.prog.info? 22).map (fun i => (i.zero, i.size, i.bytes)) = some (some (.slice none 0 0), 1, 24) := by kernel_rfl
def gvw (vs : List Value) (i : Nat) : Value := vs.getD i (.slice none 0 0)
def glw (L : List (List Int)) (i : Nat) : List Int := L.getD i []
/-- a row of rows of numbers, all of the call's own. -/
structure Ways (w : World) (B : Nat) (v : Value) (vs : List Value) (L : List (List Int)) : Prop where
  out : w.ownsRow B 22 1 v vs.length vs
  len : vs.length = L.length
  own : ∀ i, i < L.length → OwnI w B (gvw vs i) (glw L i)
theorem Ways.below {w w' : World} {B : Nat} {v : Value} {vs : List Value} {L : List (List Int)} (h : Ways w B v vs L) (hb : Below w.heap.size w w') : Ways w' B v vs L :=
  ⟨World.ownsRow.kept h.out (below_grown hb none) (by cases v.ownBlock <;> simp), h.len, fun i hi => ownI_below (h.own i hi) hb⟩
theorem ways_ne {w : World} {B B' n : Nat} {v u : Value} {xs : List Value} {l : List Int} (h : w.ownsRow B 22 1 v n xs) (ho : OwnI w B' u l) : u.ownBlock = none ∨ u.ownBlock ≠ v.ownBlock := by
  rcases h.2 with ⟨rfl, _⟩ | ⟨g, cap, cur, rfl, _, hh, _⟩
  · cases hu : u.ownBlock with
    | none => exact .inl rfl
    | some g => right; intro e; cases e
  · right; exact ownI_ne ho hh (by decide)
theorem gvw_left {vs us : List Value} {i : Nat} (h : i < vs.length) : gvw (vs ++ us) i = gvw vs i := by
  unfold gvw; rw [List.getD_eq_getElem?_getD, List.getElem?_append_left h, List.getD_eq_getElem?_getD]
theorem gvw_right {vs us : List Value} {i : Nat} (h : vs.length ≤ i) : gvw (vs ++ us) i = gvw us (i - vs.length) := by
  unfold gvw; rw [List.getD_eq_getElem?_getD, List.getElem?_append_right h, List.getD_eq_getElem?_getD]
theorem glw_left {vs us : List (List Int)} {i : Nat} (h : i < vs.length) : glw (vs ++ us) i = glw vs i := by
  unfold glw; rw [List.getD_eq_getElem?_getD, List.getElem?_append_left h, List.getD_eq_getElem?_getD]
theorem glw_right {vs us : List (List Int)} {i : Nat} (h : vs.length ≤ i) : glw (vs ++ us) i = glw us (i - vs.length) := by
  unfold glw; rw [List.getD_eq_getElem?_getD, List.getElem?_append_right h, List.getD_eq_getElem?_getD]
/-- some rows more, which lie in a block. -/
theorem run_ways {w : World} {B k nb cq : Nat} {v : Value} {vs us : List Value} {L ls : List (List Int)} {cs : Array Value} {T2 : TypeId} {fz : Nat × Nat} (T : TypeId) (h : Ways w B v vs L) (hu : us.length = k) (hl : ls.length = k) (hown : ∀ i, i < k → OwnI w B (gvw us i) (glw ls i))
    (hb : w.heap[nb]? = some (.cells cs T2 fz)) (hcs : cs = us.toArray) (h1 : ∀ u ∈ us, u.oneCell' = true) (hm : L.length + k ≤ 1000000) (hB : B ≤ w.heap.size) :
    ∃ v' w', (Builtin.append_ #[26, 26] T #[v, .slice (some ⟨nb, 0, none⟩) k cq]).run Try.prog w = .ok v' w' ∧ Ways w' B v' (vs ++ us) (L ++ ls) ∧ w.grownBy w' v.ownBlock := by
  obtain ⟨i0, hinf, hz0, hz1, hz2⟩ := info_parts info_ints
  have hn : ∀ j u, us[j]? = some u → w.cell? ((⟨nb, 0, none⟩ : Addr).add j) = some u := by
    intro j u hj
    have : (⟨nb, 0, none⟩ : Addr).add j = ⟨nb, j, none⟩ := by simp [Addr.add]; intro h; omega
    rw [this]
    subst hcs
    simp [World.cell?, hb, hj]
  have hlen := h.len
  obtain ⟨v', w', g1, g2, g3, _⟩ := run_append_own (P := Try.prog) (w := w) B 26 T 22 i0 (.slice none 0 0) 1 24 Try.underlying26 hinf hz0 hz1 hz2 rfl (by decide) v vs.length _ h.out ⟨nb, 0, none⟩ k cq us (by omega) hn h1 (by simp only [maxLen]; omega) (by omega) hB
  refine ⟨v', w', g1, ⟨?_, by simp [hlen, hu, hl], fun i hi => ?_⟩, g3⟩
  · rw [List.length_append, hu]; exact g2
  · rw [List.length_append] at hi
    by_cases hi2 : i < L.length
    · rw [gvw_left (by omega), glw_left hi2]
      exact ownI_kept (h.own i hi2) g3 (ways_ne h.out (h.own i hi2))
    · rw [gvw_right (by omega), glw_right (by omega), hlen]
      have := hown (i - L.length) (by omega)
      exact ownI_kept this g3 (ways_ne h.out this)
theorem Ways.keep {w0 W W' : World} {v : Value} {vs : List Value} {L : List (List Int)} (hb : Below w0.heap.size w0 W) (ho : Ways W w0.heap.size v vs L) (hg : W.grownBy W' v.ownBlock) : Below w0.heap.size w0 W' :=
  hb.grown hg hb.size (fun k hk => (World.ownsRow.lt ho.out k hk).1)
theorem Ways.form {w : World} {B : Nat} {v : Value} {vs : List Value} {L : List (List Int)} (h : Ways w B v vs L) : ∃ q c, v = .slice q vs.length c := by
  rcases h.out.2 with ⟨rfl, hn⟩ | ⟨g, cap, cur, rfl, _⟩
  · exact ⟨none, 0, by rw [hn]⟩
  · exact ⟨_, _, rfl⟩
/-- a row is read. -/
theorem Ways.at {w : World} {B n : Nat} {q : Option Addr} {c : Nat} {vs : List Value} {L : List (List Int)} (h : Ways w B (.slice q n c) vs L) {i : Nat} (hi : i < L.length) :
    ∃ b qi ci, q = some ⟨b, 0, none⟩ ∧ w.cell? ⟨b, i, none⟩ = some (.slice qi (glw L i).length ci) ∧ OwnI w B (.slice qi (glw L i).length ci) (glw L i) ∧ SlI w qi (glw L i) ∧ (qi = none → ci = 0) := by
  have ho := h.own i hi
  obtain ⟨qi, ci, e, _⟩ := ownI_form ho
  have hlen := h.len
  rw [e] at ho
  have hv : vs[i]? = some (.slice qi (glw L i).length ci) := by
    have : vs[i]? = some (gvw vs i) := by unfold gvw; rw [List.getD_eq_getElem?_getD, List.getElem?_eq_getElem (by omega)]; rfl
    rw [this, e]
  rcases h.out.2 with ⟨_, hn⟩ | ⟨g, cap, cur, e2, _⟩
  · omega
  · simp only [Value.slice.injEq] at e2
    obtain ⟨rfl, _, _⟩ := e2
    have := World.ownsRow.cells h.out (g := g) rfl i _ hv
    have e3 : (⟨g, 0, none⟩ : Addr).add i = ⟨g, i, none⟩ := by simp [Addr.add]; intro h; omega
    rw [e3] at this
    exact ⟨g, qi, ci, rfl, this, ho, (ownI_row ho).1, (ownI_row ho).2⟩
/-- the first rows, in a block just made. -/
theorem ways_new {w : World} {B : Nat} (us : List Value) (ls : List (List Int)) (k : Nat) (hu : us.length = k) (hl : ls.length = k) (hk : k ≤ 100) (hown : ∀ i, i < k → OwnI w B (gvw us i) (glw ls i)) (hB : B ≤ w.heap.size) (h1 : us.length = us.length) {cs : Array Value} (hcs : cs = us.toArray) :
    Ways (w.alloc (.cells cs 22)) B (.slice (some ⟨w.heap.size, 0, none⟩) k k) us ls := by
  subst hcs
  refine ⟨?_, by omega, fun i hi => ownI_below (hown i (by omega)) (bl_alloc _ _)⟩
  refine ⟨by omega, .inr ⟨w.heap.size, k, _, by rw [hu], hB, (MapKept.heap_alloc w _).1, by omega, by simp only [maxLen]; omega, ?_, ?_⟩⟩
  · rw [List.size_toArray]; omega
  · show us.take _ = _
    rw [List.take_of_length_le (by omega)]
def GoodW (p : Nat) (r : List Int) (L : List (List Int)) : Prop := ∀ i, i < L.length → Way p r (glw L i)
theorem GoodW.more {p : Nat} {r : List Int} {L : List (List Int)} {W : List Int} (h : GoodW p r L) (hw : Way p r W) : GoodW p r (L ++ [W]) := by
  intro i hi
  rw [List.length_append] at hi
  simp only [List.length_cons, List.length_nil] at hi
  by_cases h2 : i < L.length
  · rw [glw_left h2]; exact h i h2
  · rw [glw_right (by omega), show i - L.length = 0 by omega]; exact hw
theorem GoodW.more2 {p : Nat} {r : List Int} {L : List (List Int)} {W V : List Int} (h : GoodW p r L) (hw : Way p r W) (hv : Way p r V) : GoodW p r (L ++ [W, V]) := by
  have := (h.more hw).more hv
  rw [List.append_assoc] at this; exact this

/-- a list just made is a list of the call's own. -/
theorem own_lit (w : World) (B : Nat) (l : List Int) (k : Nat) (cs : Array Value) (hl : l.length = k) (hcs : cs = (l.map (Value.int .i64)).toArray) (hB : B ≤ w.heap.size) (hk : k ≤ 1000) : OwnI (w.alloc (.cells cs 3)) B (.slice (some ⟨w.heap.size, 0, none⟩) k k) l := by
  subst hl hcs
  refine ⟨by simp, .inr ⟨w.heap.size, l.length, _, rfl, hB, (MapKept.heap_alloc w _).1, Nat.le_refl _, by simp only [maxLen]; omega, ?_, ?_⟩⟩
  · simp
  · show (l.map (Value.int .i64)).take _ = _
    rw [List.take_of_length_le (by simp)]
def hexB : ByteArray := ⟨#[48, 49, 50, 51, 52, 53, 54, 55, 56, 57, 97, 98, 99, 100, 101, 102]⟩
theorem hex_at (d : Nat) (h : d < 16) (w : World) : ∃ x : Nat, (Instr.index 9 (.string ⟨#[48, 49, 50, 51, 52, 53, 54, 55, 56, 57, 97, 98, 99, 100, 101, 102]⟩) (.int .i64 (d : Nat))).run Try.prog w = .ok (.int .u8 (x : Nat)) w ∧ (x : Int) = dgt d ∧ x < 256 := by
  match d, h with
  | 0, _ => exact ⟨48, by kernel_rfl, rfl, by decide⟩
  | 1, _ => exact ⟨49, by kernel_rfl, rfl, by decide⟩
  | 2, _ => exact ⟨50, by kernel_rfl, rfl, by decide⟩
  | 3, _ => exact ⟨51, by kernel_rfl, rfl, by decide⟩
  | 4, _ => exact ⟨52, by kernel_rfl, rfl, by decide⟩
  | 5, _ => exact ⟨53, by kernel_rfl, rfl, by decide⟩
  | 6, _ => exact ⟨54, by kernel_rfl, rfl, by decide⟩
  | 7, _ => exact ⟨55, by kernel_rfl, rfl, by decide⟩
  | 8, _ => exact ⟨56, by kernel_rfl, rfl, by decide⟩
  | 9, _ => exact ⟨57, by kernel_rfl, rfl, by decide⟩
  | 10, _ => exact ⟨97, by kernel_rfl, rfl, by decide⟩
  | 11, _ => exact ⟨98, by kernel_rfl, rfl, by decide⟩
  | 12, _ => exact ⟨99, by kernel_rfl, rfl, by decide⟩
  | 13, _ => exact ⟨100, by kernel_rfl, rfl, by decide⟩
  | 14, _ => exact ⟨101, by kernel_rfl, rfl, by decide⟩
  | 15, _ => exact ⟨102, by kernel_rfl, rfl, by decide⟩
  | n + 16, h => exact absurd h (by omega)
def HexPost (H : List Int) (w : World) (e : Ending) (w' : World) : Prop :=
  ∃ q c, e = .returned (.slice q H.length c) ∧ OwnI w' w.heap.size (.slice q H.length c) H ∧ Below w.heap.size w w'

set_option maxHeartbeats 3200000 in
set_option maxRecDepth 100000 in
theorem hex_any (n l : Nat) (w : World) (hn : n ≤ 1114111) (hl : l ≤ 9) : Calls Try.prog 6 #[.int .i64 (n : Nat), .int .i64 (l : Nat)] w (HexPost (hxs n l) w) := by
  obtain ⟨H, hH⟩ : ∃ H, H = hxs n l := ⟨_, rfl⟩
  have hHl : H.length ≤ 9 := by rw [hH]; exact hxs_len 9 n l (by omega) hl
  rw [← hH]
  have HH := Lib.hid hH
  have HHL := Lib.hid hHl
  have hlI : (l : Int) ≤ 9 := by omega
  clear hH hHl
  go_enter Try.func6, Try.ntmps6
  go_wp2
  go_loopw [0, 1, 5] (fun nv lv ov wr => ∃ (m : Nat) (q : Option Addr) (c : Nat) (M : List Int), nv = .int .i64 (m : Nat) ∧ lv = .int .i64 ((l : Int) - (M.length : Int)) ∧ ov = .slice q M.length c ∧ m ≤ 1114111 ∧ Hid (hxs m (l - M.length) ++ M = H) ∧ Hid (OwnI wr w.heap.size (.slice q M.length c) M) ∧ Hid (Below w.heap.size w wr)) (fun nv lv _ _ => (intOf nv).toNat + (intOf lv).toNat)
  case atStart =>
    refine ⟨n, none, 0, [], rfl, by simp, rfl, hn, ?_, ownI_nil _ _, Below.refl _ _⟩
    show hxs n (l - 0) ++ [] = H
    rw [HH.out]; simp
  case round =>
    obtain ⟨m, q, c, M, rfl, rfl, rfl, hm, HM, HO, HB⟩ := hrel
    rename World => wr
    have hml : M.length ≤ 9 := by
      have h1 := HHL.out
      rw [← HM.out, List.length_append] at h1
      omega
    have hmlI : (M.length : Int) ≤ 9 := by omega
    by_cases hgo : m = 0 ∧ l ≤ M.length
    · obtain ⟨rfl, hle⟩ := hgo
      have hleI : (l : Int) - (M.length : Int) ≤ 0 := by omega
      have HE : Hid (M = H) := by
        show _ = _
        have := HM.out
        rw [show l - M.length = 0 by omega, hxs_nil, List.nil_append] at this
        exact this
      go_wp2
      go_ret
      have hO := HO.out
      have hE := HE.out
      subst hE
      exact ⟨q, c, rfl, hO, HB.out⟩
    · have HST : Hid (hxs m (l - M.length) = hxs (m / 16) (l - M.length - 1) ++ [dgt (m % 16)]) := hxs_step (by omega)
      have hmd : m % 16 < 16 := Nat.mod_lt _ (by decide)
      obtain ⟨x, hxI, hxd, hx2⟩ : ∃ x : Nat, (∀ W : World, (Instr.index 9 (.string ⟨#[48, 49, 50, 51, 52, 53, 54, 55, 56, 57, 97, 98, 99, 100, 101, 102]⟩) (.int .i64 ((m % 16 : Nat) : Int))).run Try.prog W = .ok (.int .u8 (x : Nat)) W) ∧ (x : Int) = dgt (m % 16) ∧ x < 256 := by
        obtain ⟨x, _, h2, h3⟩ := hex_at (m % 16) hmd wr
        refine ⟨x, fun W => ?_, h2, h3⟩
        obtain ⟨y, g1, g2, g3⟩ := hex_at (m % 16) hmd W
        have : y = x := by omega
        subst this
        exact g1
      have hrem : Int.tmod (m : Int) 16 = ((m % 16 : Nat) : Int) := (Int.ofNat_tmod m 16).symm
      have hquo : Int.tdiv (m : Int) 16 = ((m / 16 : Nat) : Int) := (Int.ofNat_tdiv m 16).symm
      have hxJ : (x : Int) < 256 := by omega
      have hdI : ((m % 16 : Nat) : Int) < 16 := by omega
      have hqI : ((m / 16 : Nat) : Int) ≤ 1114111 := by omega
      have HXD := Lib.hid hxd
      have HGO := Lib.hid hgo
      have HM0 := Lib.hid hm
      generalize m % 16 = d at *
      generalize hz : m / 16 = z at *
      have HZ := Lib.hid hz
      clear hz hgo hxd hx2
      by_cases hm0 : 0 < m
      · have hm0I : (0 : Int) < m := by omega
        obtain ⟨v3, w3, hr, hO3, hg3⟩ := run_joinI (w := wr.alloc (.cells #[.int .i64 (x : Int)] 3)) (B := w.heap.size) (v := .slice (some ⟨wr.heap.size, 0, none⟩) 1 1) (N := [(x : Int)]) (q := q) (cq := c) (a := M) 22 (own_lit wr w.heap.size [(x : Int)] 1 _ rfl rfl HB.out.size (by decide)) ((ownI_row HO.out).1.below (bl_alloc _ _)) (ownI_row HO.out).2 (by simp only [List.length_cons, List.length_nil]; omega) (by rw [size_alloc]; have := HB.out.size; omega)
        have hb3 : Below w.heap.size w w3 := bl_keep (HB.out.alloc HB.out.size _) (own_lit wr w.heap.size [(x : Int)] 1 _ rfl rfl HB.out.size (by decide)) hg3
        obtain ⟨q3, c3, rfl, _⟩ := ownI_form hO3
        have HR := Lib.hid hr
        have HO3 := Lib.hid hO3
        have HB3 := Lib.hid hb3
        have HML : Hid (([(x : Int)] ++ M).length = M.length + 1) := by show _ = _; simp
        have HM3 : Hid (hxs z (l - ([(x : Int)] ++ M).length) ++ ([(x : Int)] ++ M) = H) := by
          show _ = _
          rw [HML.out, ← HM.out, HST.out, List.append_assoc, HXD.out, Nat.sub_sub]
        clear hr hO3 hg3 hb3
        generalize [(x : Int)] ++ M = M3 at *
        go_wp2_with (at_builtin; refine wpList_append_stop (by rfl) _ _ 22 rfl _ _ _ rfl rfl HR.out ?_)
        refine Stop.on ?_
        go_wp2
        go_roundw
        case rel => exact ⟨z, q3, c3, M3, by rfl, by have := HML.out; rw [this]; go_num, rfl, by have := HZ.out; omega, HM3, HO3, HB3⟩
        case measure => have := HZ.out; have := HGO.out; simp [intOf]; omega
      · have hmz : (m : Int) ≤ 0 := by omega
        have hlI2 : (0 : Int) < (l : Int) - (M.length : Int) := by have := HGO.out; omega
        obtain ⟨v3, w3, hr, hO3, hg3⟩ := run_joinI (w := wr.alloc (.cells #[.int .i64 (x : Int)] 3)) (B := w.heap.size) (v := .slice (some ⟨wr.heap.size, 0, none⟩) 1 1) (N := [(x : Int)]) (q := q) (cq := c) (a := M) 22 (own_lit wr w.heap.size [(x : Int)] 1 _ rfl rfl HB.out.size (by decide)) ((ownI_row HO.out).1.below (bl_alloc _ _)) (ownI_row HO.out).2 (by simp only [List.length_cons, List.length_nil]; omega) (by rw [size_alloc]; have := HB.out.size; omega)
        have hb3 : Below w.heap.size w w3 := bl_keep (HB.out.alloc HB.out.size _) (own_lit wr w.heap.size [(x : Int)] 1 _ rfl rfl HB.out.size (by decide)) hg3
        obtain ⟨q3, c3, rfl, _⟩ := ownI_form hO3
        have HR := Lib.hid hr
        have HO3 := Lib.hid hO3
        have HB3 := Lib.hid hb3
        have HML : Hid (([(x : Int)] ++ M).length = M.length + 1) := by show _ = _; simp
        have HM3 : Hid (hxs z (l - ([(x : Int)] ++ M).length) ++ ([(x : Int)] ++ M) = H) := by
          show _ = _
          rw [HML.out, ← HM.out, HST.out, List.append_assoc, HXD.out, Nat.sub_sub]
        clear hr hO3 hg3 hb3
        generalize [(x : Int)] ++ M = M3 at *
        go_wp2_with (at_builtin; refine wpList_append_stop (by rfl) _ _ 22 rfl _ _ _ rfl rfl HR.out ?_)
        refine Stop.on ?_
        go_wp2
        go_roundw
        case rel => exact ⟨z, q3, c3, M3, by rfl, by have := HML.out; rw [this]; go_num, rfl, by have := HZ.out; omega, HM3, HO3, HB3⟩
        case measure => have := HZ.out; have := HGO.out; simp [intOf]; omega
end Go.Proofs.Ytnedbeomflllcaa
