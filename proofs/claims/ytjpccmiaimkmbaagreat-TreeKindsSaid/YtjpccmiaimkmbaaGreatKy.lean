/- TreeKinds: the widest trees, plain: a row of sets and a sequence of all of them. -/
/- TreeKinds: the widest trees at work: a set of a call's own; rows of such sets. -/
/- TreeKinds: the widest trees at work: a sequence that is put together, and its tree. -/
import Derived.Test.YtjpccmiaimkmbaaGreatMw
import Derived.Test.YtjpccmiaimkmbaaGreatKr
import Derived.Test.YtjpccmiaimkmbaaGreatJt

namespace Go.Proofs.YtjpccmiaimkmbaaGreat
open Go.RowKit Tnr Tnt

def upTo (n : Nat) : List Int := (List.range n).map fun i => ((i : Nat) : Int)
def leavesN (n : Nat) : List Nd := List.replicate n (setNd 97)
def wideN (n : Nat) : List Nd := leavesN n ++ [{ seqNd with kids := upTo n }]
theorem wideN_length (n : Nat) : (wideN n).length = n + 1 := by simp [wideN, leavesN]
def accN (n : Nat) : List (Nat × Nat) := (List.range n).map fun i => (i, 1)
theorem accN_length (n : Nat) : (accN n).length = n := by simp [accN]
theorem accN_succ (n : Nat) : accN n ++ [(n, 1)] = accN (n + 1) := by unfold accN; rw [List.range_succ, List.map_append]; rfl
theorem ordG_leaves (L : List Nd) : ∀ (n k : Nat), ordG (leavesN n ++ L) (accN k) = ordG L (accN (k + n))
  | 0, k => rfl
  | n + 1, k => by
    show ordG (setNd 97 :: (leavesN n ++ L)) (accN k) = _
    have h : rk (gf (accN k)) (setNd 97).kids.reverse (accN k).length 0 = some (k, 0) := by
      rw [accN_length]; rfl
    rw [show ordG (setNd 97 :: (leavesN n ++ L)) (accN k) = (match rk (gf (accN k)) (setNd 97).kids.reverse (accN k).length 0 with | none => none | some (f, d) => ordG (leavesN n ++ L) (accN k ++ [(f, d + 1)])) from rfl, h]
    show ordG (leavesN n ++ L) (accN k ++ [(k, 1)]) = _
    rw [accN_succ, ordG_leaves L n (k + 1), show k + 1 + n = k + (n + 1) by omega]
theorem gf_accN {n i : Nat} (h : i < n) : gf (accN n) i = (i, 1) := by
  unfold gf accN
  rw [List.getD_eq_getElem?_getD, List.getElem?_map, List.getElem?_range h]; rfl
theorem rk_wide (n : Nat) : ∀ (k d : Nat), k ≤ n → d ≤ 1 → rk (gf (accN n)) (upTo k).reverse k d = some (0, if k = 0 then d else 1)
  | 0, d, _, _ => rfl
  | k + 1, d, hk, hd => by
    have e : (upTo (k + 1)).reverse = (k : Int) :: (upTo k).reverse := by
      unfold upTo; rw [List.range_succ, List.map_append, List.reverse_append]; rfl
    rw [e]
    unfold rk
    rw [if_neg (by omega), show k + 1 - 1 = k from rfl, gf_accN (by omega)]
    have := rk_wide n k (max d 1) (by omega) (by omega)
    rw [show ((k, 1) : Nat × Nat).1 = k from rfl, show ((k, 1) : Nat × Nat).2 = 1 from rfl, this]
    by_cases h0 : k = 0
    · rw [if_pos h0, if_neg (by omega), show max d 1 = 1 by omega]
    · rw [if_neg h0, if_neg (by omega)]
theorem ordG_wide (n : Nat) (h : 0 < n) : ordG (wideN n) [] = some (accN n ++ [(0, 2)]) := by
  unfold wideN
  have := ordG_leaves [{ seqNd with kids := upTo n }] n 0
  rw [Nat.zero_add] at this
  rw [show accN 0 = [] from rfl] at this
  rw [this]
  unfold ordG
  have hr := rk_wide n n 0 (Nat.le_refl _) (by omega)
  rw [if_neg (by omega)] at hr
  rw [accN_length]
  show (match rk (gf (accN n)) (upTo n).reverse n 0 with | none => none | some (f, d) => ordG [] (accN n ++ [(f, d + 1)])) = _
  rw [hr]
  rfl
theorem gf_wide (n : Nat) : gf (accN n ++ [(0, 2)]) n = (0, 2) := by
  unfold gf
  rw [List.getD_eq_getElem?_getD, List.getElem?_append_right (by rw [accN_length]; exact Nat.le_refl _), accN_length, Nat.sub_self]; rfl
theorem ordT_wide {n : Nat} (h : 0 < n) (h4 : n < 4000) : ordT (wideN n) = some (accN n ++ [(0, 2)]) := by
  unfold ordT
  rw [if_neg (by rw [wideN_length]; omega), ordG_wide n h]
  simp only
  rw [wideN_length, Nat.add_sub_cancel, gf_wide, if_pos rfl]
theorem ordT_wide_no {n : Nat} (h4 : 4000 ≤ n) : ordT (wideN n) = none := by
  unfold ordT
  rw [if_pos (.inr (by rw [wideN_length]; omega))]
theorem evN_none (ks : List Int) : ∀ (L : List Nd) (k : Nat), (∀ d ∈ L, d.kind ∉ ks) → evN ks k L = []
  | [], _, _ => rfl
  | d :: L, k, h => by
    unfold evN
    rw [if_neg (h d List.mem_cons_self)]
    exact evN_none ks L (k + 1) fun x hx => h x (List.mem_cons_of_mem _ hx)
theorem wide_kind {n : Nat} {d : Nd} (h : d ∈ wideN n) : d.kind = 2 ∨ d.kind = 3 := by
  rcases List.mem_append.1 h with h | h
  · rw [(List.mem_replicate.1 h).2]; exact .inl rfl
  · rw [List.mem_singleton.1 h]; exact .inr rfl
theorem wide_ev {n : Nat} (ks : List Int) (h2 : (2 : Int) ∉ ks) (h3 : (3 : Int) ∉ ks) (k : Nat) : evN ks k (wideN n) = [] :=
  evN_none ks _ k fun d hd => by rcases wide_kind hd with h | h <;> rw [h] <;> assumption
theorem upTo_length (n : Nat) : (upTo n).length = n := by simp [upTo]
theorem wide_kinds {n : Nat} (h2 : 2 ≤ n) (h4 : n ≤ 4000) : kindsN (wideN n) = true := by
  unfold kindsN
  rw [List.all_eq_true]
  intro d hd
  rcases List.mem_append.1 hd with hd | hd
  · rw [(List.mem_replicate.1 hd).2]; decide
  · rw [List.mem_singleton.1 hd]
    show fitsB 2 4000 bareB id (mkN { seqNd with kids := upTo n }) = true
    unfold fitsB
    have e : ((mkN { seqNd with kids := upTo n }).nd.kids.length : Int) = n := by
      show ((upTo n).length : Int) = n
      rw [upTo_length]
    rw [e, decide_eq_true (show (2 : Int) ≤ n by omega), decide_eq_true (show (n : Int) ≤ 4000 by omega)]
    rfl
theorem right_wide {n : Nat} (h2 : 2 ≤ n) (h4 : n < 4000) : rightN (wideN n) [] = true := by
  have hn : namedB [] = true := by decide
  have hb : begN (wideN n) (fsZ (accN n ++ [(0, 2)])) = [] := by
    unfold begN plN
    rw [wide_ev [5] (by decide) (by decide)]
    unfold begL
    simp
  unfold rightN soundN writtenN countN allN
  rw [ordT_wide (by omega) h4, wide_kinds h2 (by omega), hn]
  simp only
  rw [wideN_length, Nat.add_sub_cancel, gf_wide, wide_ev [12, 13] (by decide) (by decide), wide_ev [8] (by decide) (by decide), hb]
  rfl
theorem right_wide_no {n : Nat} (h4 : 4000 ≤ n) (nm : List ByteArray) : rightN (wideN n) nm = false := by
  unfold rightN soundN
  rw [ordT_wide_no h4]
  rfl
theorem deep_wide {n : Nat} (h : 0 < n) (h4 : n < 4000) : deepT (wideN n) = 2 := by
  unfold deepT
  rw [ordT_wide h h4, wideN_length, Nat.add_sub_cancel]
  simp only
  rw [gf_wide]
theorem deep_wide_no {n : Nat} (h4 : 4000 ≤ n) : deepT (wideN n) = 0 := by
  unfold deepT
  rw [ordT_wide_no h4]
end Go.Proofs.YtjpccmiaimkmbaaGreat


namespace Go.Proofs.YtjpccmiaimkmbaaGreat
open Go.RowKit Tnr Tnt

def leafV (n : Int) (g : Nat) : NV := ⟨setNd n, some ⟨g, 0, none⟩, 1, none, 0⟩
set_option maxHeartbeats 1600000 in
set_option maxRecDepth 100000 in
theorem set6_own (n : Int) (w : World) : Calls Tryz.prog 20 #[.int .i64 n] w fun e w' => ∃ g, e = .returned (.agg (encN (leafV n g)).toArray) ∧ w.heap.size ≤ g ∧ Bx w' g 51 #[.int .i64 n, .int .i64 n] ∧ Below w.heap.size w w' := by
  obtain ⟨W2, hW2⟩ : ∃ W, W = (w.alloc (.cells #[.int .u8 2, .slice (some ⟨w.heap.size + 1, 0, none⟩) 1 1, .slice none 0 0, .int .i64 0, .int .i64 0, .int .i64 0, .int .u8 0, .int .u8 0, .bool false] 28)).alloc (.cells #[.int .i64 n, .int .i64 n] 51) := ⟨_, rfl⟩
  have hX : Bx W2 w.heap.size 28 #[.int .u8 2, .slice (some ⟨w.heap.size + 1, 0, none⟩) 1 1, .slice none 0 0, .int .i64 0, .int .i64 0, .int .i64 0, .int .u8 0, .int .u8 0, .bool false] := by rw [hW2]; exact (Bx.new w _ _).below (bl_alloc _ _)
  have hR : Bx W2 (w.heap.size + 1) 51 #[.int .i64 n, .int .i64 n] := by
    have h := Bx.new (w.alloc (.cells #[.int .u8 2, .slice (some ⟨w.heap.size + 1, 0, none⟩) 1 1, .slice none 0 0, .int .i64 0, .int .i64 0, .int .i64 0, .int .u8 0, .int .u8 0, .bool false] 28)) 51 #[.int .i64 n, .int .i64 n]
    rw [World.size_alloc] at h; rw [hW2]; exact h
  have hb2 : Below w.heap.size w W2 := by rw [hW2]; exact bl_trans (bl_alloc _ _) (bl_alloc _ _)
  have HZ := Lib.hid (nine hX)
  have HR := Lib.hid hR
  have HB := Lib.hid hb2
  have HW := Lib.hid hW2
  clear hX hR hb2 hW2
  go_enter Tryz.func20, Tryz.ntmps20
  go_wp2
  rw [← HW.out]
  obtain ⟨z0, z1, z2, z3, z4, z5, z6, z7, z8⟩ := HZ.out
  refine bodyPost_ret (v := .agg (encN (leafV n (w.heap.size + 1))).toArray) (by simp [results, Tryz.results20, go_sem, z0, z1, z2, z3, z4, z5, z6, z7, z8, encN, leafV, setNd]) rfl ?_
  exact ⟨w.heap.size + 1, rfl, by omega, HR.out, HB.out⟩
theorem own_box {w : World} {B g size n : Nat} {T : TypeId} {cs : Array Value} (h : Bx w g T cs) (hB : B ≤ g) (hn : n ≤ maxLen) (hs : cs.size = n * size) : w.ownsRow B T size (.slice (some ⟨g, 0, none⟩) n n) n cs.toList :=
  ⟨by simpa using hs, .inr ⟨g, n, cs, rfl, hB, h, Nat.le_refl _, hn, hs, List.take_of_length_le (by rw [Array.length_toList, hs]; exact Nat.le_refl _)⟩⟩
theorem leaf_set {w : World} {B g : Nat} {c : Int} (h : Bx w g 51 #[.int .i64 c, .int .i64 c]) (hB : B ≤ g) : OwnR w B (.slice (leafV c g).ps (leafV c g).nd.set.length (leafV c g).cs) (leafV c g).nd.set :=
  own_box (size := 2) (n := 1) h hB (by simp [maxLen]) rfl
theorem leaf_kids (w : World) (B : Nat) (c : Int) (g : Nat) : OwnZ w B (.slice (leafV c g).pk (leafV c g).nd.kids.length (leafV c g).ck) (leafV c g).nd.kids := ownZ_nil w B
def Bare (xs : List NV) : Prop := ∀ x ∈ xs, x.pk = none ∧ x.ck = 0 ∧ x.nd.kids = []
theorem OwnN.ints {w w' : World} {B n z : Nat} {u v : Value} {xs : List NV} {us : List Value} (h : OwnN w B v xs) (hl : Bare xs) (ho : w.ownsRow B 3 z u n us) (hg : w.grownBy w' u.ownBlock) : OwnN w' B v xs := by
  refine ⟨kept_beside h.row ho (by decide) hg, fun x hx => kept_beside (h.set x hx) ho (by decide) hg, fun x hx => ?_⟩
  obtain ⟨h1, h2, h3⟩ := hl x hx
  rw [h1, h2, h3]
  exact ownZ_nil w' B
structure WS (w : World) (B : Nat) (b8 : Nat) (q : Option Addr) (n cq : Nat) (ys : List NV) : Prop where
  box : Bx w b8 34 #[.slice q n cq, .slice none 0 0]
  own : OwnN w B (.slice q n cq) ys
  len : n = ys.length
  nds : nds ys = leavesN n
  bare : Bare ys
theorem WS.below {w w' : World} {B b8 : Nat} {q : Option Addr} {n cq : Nat} {ys : List NV} (h : WS w B b8 q n cq ys) (hb : Below w.heap.size w w') : WS w' B b8 q n cq ys := ⟨h.box.below hb, h.own.below hb, h.len, h.nds, h.bare⟩
theorem WS.more {w w' : World} {B b8 : Nat} {q : Option Addr} {n cq : Nat} {ys : List NV} (h : WS w B b8 q n cq ys) {g gg cap : Nat} (hr : Bx w g 51 #[.int .i64 97, .int .i64 97]) (hB : B ≤ g)
    (hown : w'.ownsRow B 28 9 (.slice (some ⟨gg, 0, none⟩) (n + 1) cap) (n + 1) (ys.flatMap encN ++ encN (leafV 97 g))) (hg : w.grownBy w' (Value.slice q n cq).ownBlock) :
    WS (w'.setCell ⟨b8, 0, none⟩ (.slice (some ⟨gg, 0, none⟩) (n + 1) cap)) B b8 (some ⟨gg, 0, none⟩) (n + 1) cap (ys ++ [leafV 97 g]) := by
  have kB : Bx w' b8 34 #[.slice q n cq, .slice none 0 0] := h.box.kept hg (Ne.symm (row_ne h.own.row h.box (by decide)))
  have kN : OwnN w' B (.slice (some ⟨gg, 0, none⟩) (n + 1) cap) (ys ++ [leafV 97 g]) := h.own.more h.len (leaf_set hr hB) (leaf_kids w B 97 g) hown hg
  refine ⟨kB.set 0 _, kN.offK kB (by decide) (by decide) (by decide), by rw [List.length_append, ← h.len]; rfl, ?_, fun x hx => ?_⟩
  · show (ys ++ [leafV 97 g]).map NV.nd = _
    rw [List.map_append, show ys.map NV.nd = leavesN n from h.nds]
    unfold leavesN
    rw [List.replicate_succ']; rfl
  · rcases List.mem_append.1 hx with hx | hx
    · exact h.bare x hx
    · rw [List.mem_singleton.1 hx]; exact ⟨rfl, rfl, rfl⟩
theorem gn_takeK (ys : List NV) (n : Nat) (i : Nat) (hi : i < (ys.take n).length) : gn (ys.take n) i = gn ys i := by
  have h2 : i < ys.length := by rw [List.length_take] at hi; omega
  rw [gn_get hi, gn_get h2, List.getElem_take]
theorem take_leaves {n m : Nat} (h : m ≤ n) : (leavesN n).take m = leavesN m := by
  unfold leavesN; rw [List.take_replicate, Nat.min_eq_left h]
theorem take_cells {w : World} {q : Option Addr} {ys : List NV} (h : SlN w q ys) (n : Nat) : (ys.take n).length = 0 ∨ ∃ b off, q = some ⟨b, off, none⟩ ∧ ∀ j u, ((ys.take n).flatMap encN)[j]? = some u → w.cell? ⟨b, off + j, none⟩ = some u := by
  by_cases h0 : ys.take n = []
  · left; rw [h0]; rfl
  right
  rcases h.cells with h1 | ⟨b, off, h1, h2⟩
  · rw [h1] at h0; simp at h0
  · refine ⟨b, off, h1, fun j u hu => ?_⟩
    have hj : j < ((ys.take n).flatMap encN).length := by
      rcases Nat.lt_or_ge j ((ys.take n).flatMap encN).length with h | h
      · exact h
      · rw [List.getElem?_eq_none h] at hu; cases hu
    rw [encN_length] at hj
    have hi : j / 9 < (ys.take n).length := by omega
    have e : j = j / 9 * 9 + j % 9 := by omega
    have hm : j % 9 < 9 := Nat.mod_lt _ (by omega)
    have hil : j / 9 < ys.length := by rw [List.length_take] at hi; omega
    rw [e, encN_at _ _ _ hi hm, gn_takeK _ _ _ hi] at hu
    have hc := h2 (j / 9) hil
    obtain ⟨c0, c1, c2, c3, c4, c5, c6, c7, c8⟩ := hc
    have ej : off + j = off + j / 9 * 9 + j % 9 := by omega
    rw [ej]
    generalize j / 9 = i at *
    generalize hr : j % 9 = r at *
    match r, hm with
    | 0, _ => exact c0.trans hu
    | 1, _ => exact c1.trans hu
    | 2, _ => exact c2.trans hu
    | 3, _ => exact c3.trans hu
    | 4, _ => exact c4.trans hu
    | 5, _ => exact c5.trans hu
    | 6, _ => exact c6.trans hu
    | 7, _ => exact c7.trans hu
    | 8, _ => exact c8.trans hu
theorem copy_leaves {w w' : World} {B : Nat} {v v' : Value} {z : Nat} {us : List Value} {q : Option Addr} {n cq m : Nat} {ys : List NV} (h : OwnN w B (.slice q n cq) ys) (hn : n = ys.length) (hl : Bare ys) (hm : m ≤ n) (he : w.ownsRow B 28 9 v z us)
    (hown : w'.ownsRow B 28 9 v' m ((ys.take m).flatMap encN)) (hg : w.grownBy w' v.ownBlock) : OwnN w' B v' (ys.take m) := by
  refine ⟨?_, fun x hx => kept_beside (h.set x (List.mem_of_mem_take hx)) he (by decide) hg, fun x hx => ?_⟩
  · rw [show (ys.take m).length = m by rw [List.length_take]; omega]; exact hown
  · obtain ⟨h1, h2, h3⟩ := hl x (List.mem_of_mem_take hx)
    rw [h1, h2, h3]
    exact ownZ_nil w' B
end Go.Proofs.YtjpccmiaimkmbaaGreat


namespace Go.Proofs.YtjpccmiaimkmbaaGreat
open Go.RowKit Tnr Tnt

theorem own_ne {w : World} {B n z : Nat} {T : TypeId} {v : Value} {xs : List Value} {k : Nat} (h : w.ownsRow B T z v n xs) (hk : w.heap.size ≤ k) : v.ownBlock ≠ some k := fun e => by
  have := (h.lt k e).2
  omega
theorem WS.side {w w' : World} {B b8 k : Nat} {q : Option Addr} {n cq : Nat} {ys : List NV} (h : WS w B b8 q n cq ys) {cs : Array Value} {fz : Nat × Nat} (hk : w.heap[k]? = some (.cells cs 28 fz)) (hne : (Value.slice q n cq).ownBlock ≠ some k) (hg : w.grownBy w' (some k)) : WS w' B b8 q n cq ys := by
  refine ⟨h.box.kept hg (fun e => ?_), ⟨World.ownsRow.kept h.own.row hg (.inr hne), fun x hx => World.ownsRow.kept (h.own.set x hx) hg (.inr (row_ne (h.own.set x hx) hk (by decide))), fun x hx => ?_⟩, h.len, h.nds, h.bare⟩
  · have hb := h.box
    unfold Bx at hb
    rw [Option.some.inj e, hk] at hb
    simp only [Option.some.injEq, Obj.cells.injEq] at hb
    exact absurd hb.2.1 (by decide)
  · obtain ⟨h1, h2, h3⟩ := h.bare x hx
    rw [h1, h2, h3]
    exact ownZ_nil w' B
theorem WS.far {w : World} {B b8 b i : Nat} {q : Option Addr} {n cq : Nat} {ys : List NV} {u : Value} {cs : Array Value} (h : WS w B b8 q n cq ys) (hb : Bx w b 34 cs) (hne : b8 ≠ b) : WS (w.setCell ⟨b, i, none⟩ u) B b8 q n cq ys :=
  ⟨h.box.other (a := ⟨b, i, none⟩) hne _, h.own.offK hb (by decide) (by decide) (by decide), h.len, h.nds, h.bare⟩
theorem OwnN.farN {w : World} {B b i : Nat} {v : Value} {xs : List NV} {u : Value} {cs : Array Value} (h : OwnN w B v xs) (hb : Bx w b 28 cs) (hne : v.ownBlock ≠ some b) : OwnN (w.setCell ⟨b, i, none⟩ u) B v xs := by
  have k : w.grownBy (w.setCell ⟨b, i, none⟩ u) (some b) := ⟨rfl, rfl, rfl, by simp, fun k _ hne => Below.heap_setCell _ _ _ k (fun e => hne (by rw [e]))⟩
  exact ⟨World.ownsRow.kept h.row k (.inr hne), fun x hx => own_offK (h.set x hx) hb (by decide), fun x hx => own_offK (h.kids x hx) hb (by decide)⟩
structure LS (w : World) (B b8 : Nat) (q : Option Addr) (N cq : Nat) (ys : List NV) (b11 b12 gg cap n j : Nat) (r : Option Addr) (cr : Nat) : Prop where
  ws : WS w B b8 q N cq ys
  tree : Bx w b11 34 #[.slice (some ⟨gg, 0, none⟩) n cap, .slice none 0 0]
  own : OwnN w B (.slice (some ⟨gg, 0, none⟩) n cap) (ys.take n)
  node : Bx w b12 28 #[.int .u8 3, .slice none 0 0, .slice r j cr, .int .i64 0, .int .i64 0, .int .i64 0, .int .u8 0, .int .u8 0, .bool false]
  kids : OwnZ w B (.slice r j cr) (upTo j)
  ne1 : gg ≠ b12
  ne2 : (Value.slice q N cq).ownBlock ≠ some b12
theorem LS.below {w w' : World} {B b8 : Nat} {q : Option Addr} {N cq : Nat} {ys : List NV} {b11 b12 gg cap n j : Nat} {r : Option Addr} {cr : Nat} (h : LS w B b8 q N cq ys b11 b12 gg cap n j r cr) (hb : Below w.heap.size w w') : LS w' B b8 q N cq ys b11 b12 gg cap n j r cr :=
  ⟨h.ws.below hb, h.tree.below hb, h.own.below hb, h.node.below hb, ownZ_below h.kids hb, h.ne1, h.ne2⟩
theorem upTo_succ (j : Nat) : upTo (j + 1) = upTo j ++ [(j : Int)] := by unfold upTo; rw [List.range_succ, List.map_append]; rfl
theorem LS.kid {w w' : World} {B b8 : Nat} {q : Option Addr} {N cq : Nat} {ys : List NV} {b11 b12 gg cap n j : Nat} {r : Option Addr} {cr : Nat} (h : LS w B b8 q N cq ys b11 b12 gg cap n j r cr) {g2 cap2 : Nat}
    (hown : w'.ownsRow B 3 1 (.slice (some ⟨g2, 0, none⟩) (j + 1) cap2) (j + 1) ((upTo j).map (Value.int .i64) ++ [.int .i64 ((j : Nat) : Int)])) (hg : w.grownBy w' (Value.slice r j cr).ownBlock) :
    LS (w'.setCell ⟨b12, 2, none⟩ (.slice (some ⟨g2, 0, none⟩) (j + 1) cap2)) B b8 q N cq ys b11 b12 gg cap n (j + 1) (some ⟨g2, 0, none⟩) cap2 := by
  have hrow := ownZ_row h.kids (upTo_length j).symm
  have kT : Bx w' b11 34 #[.slice (some ⟨gg, 0, none⟩) n cap, .slice none 0 0] := h.tree.kept hg (Ne.symm (row_ne hrow h.tree (by decide)))
  have kN := h.node.kept hg (Ne.symm (row_ne hrow h.node (by decide)))
  have kB := h.ws.box.kept hg (Ne.symm (row_ne hrow h.ws.box (by decide)))
  have kO : OwnN w' B (.slice (some ⟨gg, 0, none⟩) n cap) (ys.take n) := h.own.ints (fun x hx => h.ws.bare x (List.mem_of_mem_take hx)) hrow hg
  have kW : OwnN w' B (.slice q N cq) ys := h.ws.own.ints h.ws.bare hrow hg
  have hZ : OwnZ w' B (.slice (some ⟨g2, 0, none⟩) (j + 1) cap2) (upTo (j + 1)) := by
    rw [upTo_succ]; exact ownZ_appended (upTo_length j).symm hown
  refine ⟨⟨kB.other (a := ⟨b12, 2, none⟩) (bx_apart kB kN (by decide)) _, kW.farN kN h.ne2, h.ws.len, h.ws.nds, h.ws.bare⟩, kT.other (a := ⟨b12, 2, none⟩) (bx_apart kT kN (by decide)) _, kO.farN kN (fun e => h.ne1 (by simpa [Value.ownBlock] using e)), kN.set 2 _, own_offK hZ kN (by decide), h.ne1, h.ne2⟩
def wideV (n : Nat) (r : Option Addr) (cr : Nat) : NV := ⟨{ seqNd with kids := upTo n }, none, 0, r, cr⟩
theorem enc_wide (n : Nat) (r : Option Addr) (cr : Nat) : encN (wideV n r cr) = [.int .u8 3, .slice none 0 0, .slice r n cr, .int .i64 0, .int .i64 0, .int .i64 0, .int .u8 0, .int .u8 0, .bool false] := by
  unfold encN wideV
  simp only [upTo_length]
  rfl
theorem wide_nds {ys : List NV} {N n : Nat} (h : nds ys = leavesN N) (hn : n ≤ N) (r : Option Addr) (cr : Nat) : nds (ys.take n ++ [wideV n r cr]) = wideN n := by
  unfold wideN
  rw [← take_leaves hn, ← h]
  unfold nds
  rw [List.map_append, List.map_take]; rfl
theorem wide_few {n : Nat} (h : n ≤ 5000) : ∀ d ∈ wideN n, d.kids.length ≤ 1000000 ∧ d.set.length ≤ 1000000 := by
  intro d hd
  rcases List.mem_append.1 hd with hd | hd
  · rw [(List.mem_replicate.1 hd).2]
    decide
  · rw [List.mem_singleton.1 hd]
    exact ⟨by show (upTo n).length ≤ _; rw [upTo_length]; omega, by show (0 : Nat) ≤ _; omega⟩
theorem wide_in {ys : List NV} {n : Nat} (h : nds ys = wideN n) : KindsIn ys := fun x hx => by
  have : x.nd ∈ wideN n := h ▸ List.mem_map.2 ⟨x, hx, rfl⟩
  rcases wide_kind this with e | e <;> rw [e] <;> decide
end Go.Proofs.YtjpccmiaimkmbaaGreat

