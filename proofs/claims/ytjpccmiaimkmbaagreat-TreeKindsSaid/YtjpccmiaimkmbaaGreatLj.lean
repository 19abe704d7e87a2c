/- Rows of trees; the walk of Kids. -/
/- The walk of Join. -/
import Derived.Test.YtjpccmiaimkmbaaGreatLm

namespace Go.Proofs.YtjpccmiaimkmbaaGreat
open Go.RowKit Tnr Tnt

structure TV where
  q : Option Addr
  cq : Nat
  na : Option Addr
  nn : Nat
  nc : Nat
  ys : List NV
def tv0 : TV := ⟨none, 0, none, 0, 0, []⟩
def encT (t : TV) : List Value := [.slice t.q t.ys.length t.cq, .slice t.na t.nn t.nc]
def gt (l : List TV) (i : Nat) : TV := l.getD i tv0
theorem gt_get {l : List TV} {i : Nat} (h : i < l.length) : gt l i = l[i] := by
  unfold gt
  rw [List.getD_eq_getElem?_getD, List.getElem?_eq_getElem h]; rfl
theorem gt_mem {l : List TV} {k : Nat} (h : k < l.length) : gt l k ∈ l := by rw [gt_get h]; exact List.getElem_mem h
theorem drop_gt {l : List TV} {k : Nat} (h : k < l.length) : l.drop k = gt l k :: l.drop (k + 1) := by
  rw [gt_get h]; exact List.drop_eq_getElem_cons h
structure TreeIn (w : World) (t : TV) : Prop where
  nodes : SlN w t.q t.ys
  nil : t.q = none → t.cq = 0
  le : t.ys.length ≤ t.cq
  max : t.cq ≤ 9223372036854775807
theorem TreeIn.below {w w' : World} {t : TV} (h : TreeIn w t) (hb : Below w.heap.size w w') : TreeIn w' t := ⟨h.nodes.below hb, h.nil, h.le, h.max⟩
theorem encT_at : ∀ (l : List TV) (i : Nat), i < l.length → (l.flatMap encT)[i * 2]? = some (.slice (gt l i).q (gt l i).ys.length (gt l i).cq) ∧ (l.flatMap encT)[i * 2 + 1]? = some (.slice (gt l i).na (gt l i).nn (gt l i).nc)
  | [], i, h => by simp at h
  | a :: l, 0, _ => ⟨rfl, rfl⟩
  | a :: l, i + 1, h => by
    have := encT_at l i (by simpa using h)
    rw [List.flatMap_cons, show (i + 1) * 2 = i * 2 + 2 by omega]
    exact this
structure SlT (w : World) (p : Option Addr) (ts : List TV) : Prop where
  all : ∀ t ∈ ts, TreeIn w t
  cells : ts = [] ∨ ∃ b off, p = some ⟨b, off, none⟩ ∧ ∀ i, i < ts.length → w.cell? ⟨b, off + i * 2, none⟩ = some (.slice (gt ts i).q (gt ts i).ys.length (gt ts i).cq) ∧ w.cell? ⟨b, off + i * 2 + 1, none⟩ = some (.slice (gt ts i).na (gt ts i).nn (gt ts i).nc)
theorem SlT.below {w w' : World} {p : Option Addr} {ts : List TV} (h : SlT w p ts) (hb : Below w.heap.size w w') : SlT w' p ts := by
  refine ⟨fun t ht => (h.all t ht).below hb, ?_⟩
  rcases h.cells with h0 | ⟨b, off, h1, h2⟩
  · exact .inl h0
  · refine .inr ⟨b, off, h1, fun i hi => ?_⟩
    obtain ⟨c1, c2⟩ := h2 i hi
    exact ⟨by rw [hb.cell (World.block_lt_of_cell? w _ c1)]; exact c1, by rw [hb.cell (World.block_lt_of_cell? w _ c2)]; exact c2⟩
theorem SlT.at {w : World} {p : Option Addr} {ts : List TV} (h : SlT w p ts) {k : Nat} (hk : k < ts.length) : ∃ b off, p = some ⟨b, off, none⟩ ∧ w.cell? ⟨b, off + k * 2, none⟩ = some (.slice (gt ts k).q (gt ts k).ys.length (gt ts k).cq) ∧ w.cell? ⟨b, off + k * 2 + 1, none⟩ = some (.slice (gt ts k).na (gt ts k).nn (gt ts k).nc) ∧ TreeIn w (gt ts k) := by
  rcases h.cells with h0 | ⟨b, off, h1, h2⟩
  · rw [h0] at hk; simp at hk
  · obtain ⟨c1, c2⟩ := h2 k hk
    exact ⟨b, off, h1, c1, c2, h.all _ (gt_mem hk)⟩
structure OwnT (w : World) (B : Nat) (v : Value) (ts : List TV) : Prop where
  row : w.ownsRow B 34 2 v ts.length (ts.flatMap encT)
  all : ∀ t ∈ ts, OwnN w B (.slice t.q t.ys.length t.cq) t.ys
theorem OwnT.below {w w' : World} {B : Nat} {v : Value} {ts : List TV} (h : OwnT w B v ts) (hb : Below w.heap.size w w') : OwnT w' B v ts :=
  ⟨row_below h.row hb, fun t ht => (h.all t ht).below hb⟩
theorem OwnT.down {w : World} {B B' : Nat} {v : Value} {ts : List TV} (h : OwnT w B v ts) (hB : B' ≤ B) : OwnT w B' v ts :=
  ⟨World.ownsRow.mono h.row hB, fun t ht => (h.all t ht).down hB⟩
theorem ownT_nil (w : World) (B : Nat) : OwnT w B (.slice none 0 0) [] := ⟨World.ownsRow_nil w B _ 2, fun _ h => by simp at h⟩
theorem treeIn_own {w : World} {B : Nat} {t : TV} (h : OwnN w B (.slice t.q t.ys.length t.cq) t.ys) : TreeIn w t := by
  obtain ⟨p, c, e, h1, h2, h3, h4⟩ := h.form
  simp only [Value.slice.injEq, true_and] at e
  obtain ⟨rfl, rfl⟩ := e
  exact ⟨h4, h3, h1, h2⟩
theorem OwnT.form {w : World} {B : Nat} {v : Value} {ts : List TV} (h : OwnT w B v ts) : ∃ p c, v = .slice p ts.length c ∧ ts.length ≤ c ∧ c ≤ 9223372036854775807 ∧ (p = none → c = 0) ∧ SlT w p ts := by
  have hall : ∀ t ∈ ts, TreeIn w t := fun t ht => treeIn_own (h.all t ht)
  have h' := h.row
  rcases h.row.2 with ⟨rfl, hn⟩ | ⟨g, cap, cur, rfl, hb, hg, hnc, hcm, hcs, htake⟩
  · have hl : ts = [] := List.eq_nil_of_length_eq_zero hn
    subst hl
    exact ⟨none, 0, rfl, by simp, by omega, fun _ => rfl, hall, .inl rfl⟩
  · refine ⟨some ⟨g, 0, none⟩, cap, rfl, hnc, by simpa [maxLen] using hcm, by simp, hall, .inr ⟨g, 0, rfl, fun i hi => ?_⟩⟩
    obtain ⟨e1, e2⟩ := encT_at ts i hi
    rw [Nat.zero_add, h'.cellAt (i * 2) (by omega), h'.cellAt (i * 2 + 1) (by omega)]
    exact ⟨e1, e2⟩
theorem info_tree : (Tryz.prog.info? 34).map (fun i => (i.zero, i.size, i.bytes)) = some (some (.agg #[.slice none 0 0, .slice none 0 0]), 2, 48) := by kernel_rfl
theorem OwnN.beside {w w' : World} {B n z : Nat} {T : TypeId} {u v : Value} {xs : List NV} {us : List Value} (h : OwnN w B v xs) (ho : w.ownsRow B T z u n us) (hg : w.grownBy w' u.ownBlock) (h1 : T ≠ 28) (h2 : T ≠ 51) (h3 : T ≠ 3) : OwnN w' B v xs := by
  have kept : ∀ {T' : TypeId} {z' n' : Nat} {v' : Value} {xs' : List Value}, T ≠ T' → w.ownsRow B T' z' v' n' xs' → w'.ownsRow B T' z' v' n' xs' := fun {T' z' n' v' xs'} hT hr => by
    refine World.ownsRow.kept hr hg ?_
    rcases ho.2 with ⟨rfl, _⟩ | ⟨g, cap, cur, rfl, _, hh, _⟩
    · rcases hv : v'.ownBlock with _ | g2
      · exact .inl rfl
      · exact .inr (by simp [Value.ownBlock])
    · exact .inr (row_ne hr hh hT)
  exact ⟨kept h1 h.row, fun x hx => kept h2 (h.set x hx), fun x hx => kept h3 (h.kids x hx)⟩
theorem OwnT.more {w w' : World} {B n : Nat} {v v' : Value} {ts : List TV} {t : TV} (h : OwnT w B v ts) (hn : n = ts.length) (ht : OwnN w B (.slice t.q t.ys.length t.cq) t.ys)
    (hown : w'.ownsRow B 34 2 v' (n + 1) (ts.flatMap encT ++ encT t)) (hg : w.grownBy w' v.ownBlock) : OwnT w' B v' (ts ++ [t]) := by
  refine ⟨?_, fun y hy => ?_⟩
  · rw [List.length_append, ← hn, List.flatMap_append, show [t].flatMap encT = encT t by simp]; exact hown
  · have k : OwnN w B (.slice y.q y.ys.length y.cq) y.ys := by
      rcases List.mem_append.1 hy with hy | hy
      · exact h.all y hy
      · simp only [List.mem_singleton] at hy; subst hy; exact ht
    exact k.beside h.row hg (by decide) (by decide) (by decide)
theorem ownT_row {w : World} {B no d : Nat} {q : Option Addr} {l : List TV} (h : OwnT w B (.slice q no d) l) (hn : no = l.length) : w.ownsRow B 34 2 (.slice q no d) no (l.flatMap encT) := by
  have := h.row; rw [← hn] at this; exact this

def kidsT (ns : List Nd) : List (List Nd) := match ordT ns with
  | none => []
  | some l => ((ns.getD (ns.length - 1) nd0).kids).map fun k => covN ns (gf l k.toNat).1 k.toNat
def treesN (ts : List TV) : List (List Nd) := ts.map fun t => nds t.ys
theorem gn_nd {xs : List NV} {i : Nat} (h : i < xs.length) : (nds xs).getD i nd0 = (gn xs i).nd := by
  rw [List.getD_eq_getElem?_getD]
  unfold nds
  rw [List.getElem?_map, List.getElem?_eq_getElem h, gn_get h]; rfl
def KidsPost (w : World) (L : List (List Nd)) (e : Ending) (w' : World) : Prop :=
  ∃ q m cq ts, m = ts.length ∧ e = .returned (.slice q m cq) ∧ OwnT w' w.heap.size (.slice q m cq) ts ∧ treesN ts = L ∧ (∀ t ∈ ts, t.na = none ∧ t.nn = 0 ∧ t.nc = 0) ∧ Below w.heap.size w w'

set_option maxHeartbeats 3200000 in
set_option maxRecDepth 100000 in
theorem kids_any (p : Option Addr) (n c : Nat) (xs : List NV) (names : Value) (w : World) (hn : n = xs.length) (hnm : n ≤ 1000000000) (hc : n ≤ c) (hcm : c ≤ 9223372036854775807) (hp : SlN w p xs) (hf : Few xs) :
    Calls Tryz.prog 15 #[.agg #[.slice p n c, names]] w (KidsPost w (kidsT (nds xs))) := by
  obtain ⟨i0, hinf, hz0, hz1, hz2⟩ := info_parts info_tree
  obtain ⟨W1, hW1⟩ : ∃ W, W = w.alloc (.cells #[.slice p n c, names] 34) := ⟨_, rfl⟩
  have hb1 : Below w.heap.size w W1 := by rw [hW1]; exact bl_alloc _ _
  have HO := Lib.hid (ordered_any p n c xs names W1 hn hnm (hp.below hb1) hf)
  have HB1 := Lib.hid hb1
  have HW1 := Lib.hid hW1
  have HN := Lib.hid hn
  have HP := Lib.hid hp
  have HF := Lib.hid hf
  have HC := Lib.hid (And.intro hc hcm)
  clear hp hf hb1 hW1 hn hnm hc hcm
  go_enter Tryz.func15, Tryz.ntmps15
  go_wp2_with fail
  rw [← HW1.out]
  refine HO.out.mono ?_
  rintro e w5 ⟨hb5, ⟨ho, a0, n0, c0, a1, n1, c1, a2, n2, c2, rfl⟩ | ⟨l, pf, cf, pd, cd, ho, hl, hF, rfl, hfs, hds⟩⟩
  · have HOR := Lib.hid ho
    have HB5 := Lib.hid (bl_trans HB1.out hb5)
    clear ho hb5
    go_wp2
    go_ret
    exact ⟨none, 0, 0, [], rfl, rfl, ownT_nil _ _, by unfold kidsT; rw [HOR.out]; rfl, fun _ h => by simp at h, bl_trans HB5.out (bl_alloc _ _)⟩
  · obtain ⟨h1, h4⟩ := ordT_len ho
    rw [nds_length, ← HN.out] at h1 h4
    obtain ⟨W6, hW6⟩ : ∃ W, W = w5.alloc (.cells #[.slice p n c, .slice pf n cf, .slice pd n cd] 67) := ⟨_, rfl⟩
    have hba : Below w5.heap.size w5 W6 := by rw [hW6]; exact bl_alloc _ _
    have hbw : Below w.heap.size w W6 := bl_trans (bl_trans HB1.out hb5) hba
    have bT : Bx W6 w5.heap.size 67 #[.slice p n c, .slice pf n cf, .slice pd n cd] := by rw [hW6]; exact Bx.new _ _ _
    have HLA := Lib.hid (last_any p n c xs W6 HN.out h1 h4 (HP.out.below hbw))
    have hnk : n - 1 < xs.length := by have := HN.out; omega
    obtain ⟨y, hy⟩ : ∃ y, y = gn xs (n - 1) := ⟨_, rfl⟩
    have HKI : Hid (∀ k ∈ y.nd.kids, 0 ≤ k ∧ k < ((n - 1 : Nat) : Int)) := by
      have hh := ordOk_kid (ordT_ok ho).1 (i := n - 1) (by rw [nds_length]; exact hnk)
      have e : (nds xs)[n - 1]'(by rw [nds_length]; exact hnk) = y.nd := by
        rw [hy, gn_get hnk]; simp [nds]
      rw [e] at hh
      exact hh
    have HKT : Hid (kidsT (nds xs) = y.nd.kids.map fun k => covN (nds xs) (gf l k.toNat).1 k.toNat) := by
      show _ = _
      unfold kidsT
      rw [ho]
      simp only
      rw [nds_length, ← HN.out, gn_nd hnk, ← hy]
    have hyin : NodeIn W6 y := by rw [hy]; exact (HP.out.below hbw).all _ (gn_mem hnk)
    have hyf : y.nd.kids.length ≤ 1000000 := by rw [hy]; exact (HF.out _ (gn_mem hnk)).1
    rw [← hy] at HLA
    obtain ⟨ls, hls⟩ : ∃ n, n = y.nd.set.length := ⟨_, rfl⟩
    obtain ⟨lk, hlk⟩ : ∃ n, n = y.nd.kids.length := ⟨_, rfl⟩
    have HEN : Hid ((encN y).toArray = #[.int .u8 y.nd.kind, .slice y.ps ls y.cs, .slice y.pk lk y.ck, .int .i64 y.nd.group, .int .i64 y.nd.mn, .int .i64 y.nd.mx, .int .u8 y.nd.mode, .int .u8 y.nd.spot, .bool y.nd.neg]) := by show _ = _; rw [hls, hlk]; rfl
    rw [HEN.out] at HLA
    rw [← hlk] at hyf
    have HLK := Lib.hid hlk
    have HYI := Lib.hid hyin
    have HT6 := Lib.hid bT
    have HW6 := Lib.hid hW6
    have HB6 := Lib.hid hbw
    have HFS := Lib.hid (And.intro (ownZ_below hfs hba) (ownZ_below hds hba))
    have HLL := Lib.hid (And.intro hl (And.intro hF (And.intro h1 h4)))
    have HSZ := Lib.hid hb5.size
    clear ho hl hF hfs hds hb5 hba hbw bT hW6 hnk hy hyin hls hlk h1 h4
    go_wp2_with fail
    rw [← HW6.out]
    refine HLA.out.mono ?_
    rintro e w7 ⟨rfl, hb7⟩
    have HB7 := Lib.hid hb7
    have hlkI : (lk : Int) ≤ 1000000 := by omega
    have hfd : ∀ W : World, (Instr.field 28 (.agg #[.int .u8 y.nd.kind, .slice y.ps ls y.cs, .slice y.pk lk y.ck, .int .i64 y.nd.group, .int .i64 y.nd.mn, .int .i64 y.nd.mx, .int .u8 y.nd.mode, .int .u8 y.nd.spot, .bool y.nd.neg]) 2).run Tryz.prog W = .ok (.slice y.pk lk y.ck) W := fun _ => by kernel_rfl
    clear hb7
    go_wp2
    clear hfd
    go_loopw [5, 20] (fun ov iv wr => ∃ (j : Nat) (q : Option Addr) (cq : Nat) (ts : List TV), j ≤ lk ∧ ov = .slice q j cq ∧ iv = .int .i64 (j : Nat) ∧ Hid (j = ts.length) ∧ Hid (OwnT wr W6.heap.size (.slice q j cq) ts) ∧ Hid (treesN ts = (y.nd.kids.take j).map fun k => covN (nds xs) (gf l k.toNat).1 k.toNat) ∧ Hid (∀ t ∈ ts, t.na = none ∧ t.nn = 0 ∧ t.nc = 0) ∧ Hid (Below W6.heap.size W6 wr)) (fun _ iv _ => lk - (intOf iv).toNat)
    case atStart => exact ⟨0, none, 0, [], Nat.zero_le _, rfl, rfl, rfl, ownT_nil _ _, rfl, fun _ h => by simp at h, HB7.out⟩
    case round =>
      obtain ⟨j, q, cq, ts, hj, rfl, rfl, HJL, HOT, HTN, HNA, HBR⟩ := hrel
      rename World => wr
      by_cases hjk : j < lk
      · have hjx : j < y.nd.kids.length := by have := HLK.out; omega
        obtain ⟨b, o, hpk, hck⟩ := slz_at (HYI.out.kids.below HBR.out) hjx
        obtain ⟨hk0, hk1⟩ := HKI.out (gz y.nd.kids j) (by rw [gz_get hjx]; exact List.getElem_mem _)
        obtain ⟨k, hk⟩ : ∃ k : Nat, gz y.nd.kids j = (k : Nat) := ⟨(gz y.nd.kids j).toNat, by omega⟩
        rw [hk] at hck
        have hkn : k < n := by omega
        have hjI : (j : Int) < lk := by omega
        have hTB := HT6.out.below HBR.out
        obtain ⟨t0, t1, t2⟩ := three hTB
        have HCV := Lib.hid (covered_any p pf pd n c cf cd k xs l W1.heap.size wr HN.out HLL.out.1 HLL.out.2.2.2 HC.out.1 HC.out.2 hkn HLL.out.2.1 ((HP.out.below HB6.out).below HBR.out) HF.out (ownZ_below HFS.out.1 HBR.out))
        have HK := Lib.hid hk
        have HJX := Lib.hid (And.intro hjk hjx)
        rw [hpk]
        clear hk0 hk1 hk hkn hTB hjx hjk
        go_wp2_with fail
        refine HCV.out.mono ?_
        rintro e w8 ⟨q8, m8, cq8, ys8, hm8, rfl, ho8, hy8, hb8⟩
        have hbl := bl_alloc w8 (.cells #[.slice q8 m8 cq8, .slice none 0 0] 34)
        have hwr : W6.heap.size ≤ wr.heap.size := HBR.out.size
        have HOT8 := Lib.hid ((HOT.out.below hb8).below hbl)
        have HRW := Lib.hid (ownT_row (HOT.out.below hb8) HJL.out)
        have HO8 := Lib.hid ((ho8.down hwr).below hbl)
        have HM8 := Lib.hid (And.intro hm8 hy8)
        have HB8 := Lib.hid (bl_trans (bl_trans HBR.out hb8) hbl)
        have HZ8 := Lib.hid (Nat.le_trans hwr hb8.size)
        have HS8 := Lib.hid (bl_trans HBR.out hb8)
        clear ho8 hm8 hy8 hb8 hbl hwr t0 t1 t2 hck
        go_wp2_with (at_builtin; refine wpList_append_own _ rfl _ _ 29 rfl W6.heap.size 34 i0 (.agg #[.slice none 0 0, .slice none 0 0]) 2 48 Tryz.underlying29 hinf hz0 hz1 hz2 rfl (by decide) (.slice q j cq) j _ rfl (HRW.out.alloc _) ⟨w8.heap.size, 0, none⟩ 1 1 [.slice q8 m8 cq8, .slice none 0 0] rfl rfl ?k1 ?k2 ?k3 ?k4 ?k5 ?_)
        case k1 => exact cells_nine w8 _ _
        case k2 => simp [Value.oneCell']
        case k3 => simp only [maxLen]; omega
        case k4 => omega
        case k5 => have := HZ8.out; simp; omega
        intro v9 w9 hown9 hgrow9 _
        have hO9 : OwnT w9 W6.heap.size v9 (ts ++ [⟨q8, cq8, none, 0, 0, ys8⟩]) := by
          refine OwnT.more (t := ⟨q8, cq8, none, 0, 0, ys8⟩) HOT8.out HJL.out ?_ ?_ hgrow9
          · show OwnN _ _ (.slice q8 ys8.length cq8) ys8
            rw [← HM8.out.1]; exact HO8.out
          · show w9.ownsRow _ _ 2 v9 (j + 1) (ts.flatMap encT ++ [.slice q8 ys8.length cq8, .slice none 0 0])
            rw [← HM8.out.1]; exact hown9
        have hb9 : Below W6.heap.size W6 w9 := HB8.out.grown hgrow9 (by have := HZ8.out; simp; omega) (fun g hg => (HRW.out.lt g hg).1)
        obtain ⟨q9, e9, rfl, _⟩ := hO9.form
        have hj9 : j + 1 = (ts ++ [(⟨q8, cq8, none, 0, 0, ys8⟩ : TV)]).length := by rw [List.length_append, ← HJL.out]; rfl
        have hT9 : treesN (ts ++ [⟨q8, cq8, none, 0, 0, ys8⟩]) = (y.nd.kids.take (j + 1)).map fun k => covN (nds xs) (gf l k.toNat).1 k.toNat := by
          rw [gz_take HJX.out.2, List.map_append, ← HTN.out, HK.out]
          unfold treesN
          rw [List.map_append]
          congr 1
          show [nds ys8] = [_]
          rw [HM8.out.2]; rfl
        rw [← hj9] at hO9 ⊢
        have HO9 := Lib.hid hO9
        have HB9 := Lib.hid hb9
        have HT9 := Lib.hid hT9
        have HJ9 := Lib.hid hj9
        have HNA9 : Hid (∀ t ∈ ts ++ [(⟨q8, cq8, none, 0, 0, ys8⟩ : TV)], t.na = none ∧ t.nn = 0 ∧ t.nc = 0) := by
          intro t ht
          rcases List.mem_append.1 ht with ht | ht
          · exact HNA.out t ht
          · simp only [List.mem_singleton] at ht; subst ht; exact ⟨rfl, rfl, rfl⟩
        clear hown9 hgrow9 hO9 hb9 hT9 hj9
        go_wp2
        go_roundw
        case rel => exact ⟨j + 1, q9, e9, _, by have := HJX.out.1; omega, rfl, by go_num, HJ9.out, HO9.out, HT9.out, HNA9.out, HB9.out⟩
        case measure => have := HJX.out.1; simp [intOf]; omega
      · have hjI : (lk : Int) ≤ j := by omega
        obtain rfl : j = lk := by omega
        go_wp2
        go_ret
        refine ⟨q, j, cq, ts, HJL.out, rfl, HOT.out.down HB6.out.size, ?_, HNA.out, bl_trans HB6.out HBR.out⟩
        rw [HTN.out, HKT.out, List.take_of_length_le (by rw [← HLK.out]; exact Nat.le_refl _)]
end Go.Proofs.YtjpccmiaimkmbaaGreat


namespace Go.Proofs.YtjpccmiaimkmbaaGreat
open Go.RowKit Tnr Tnt

def joinA : List (List Nd) → List Nd → List Int → List Nd × List Int
  | [], a, l => (a, l)
  | k :: ks, a, l => if k.length = 0 then joinA ks a l else joinA ks (a ++ k.map (mv (a.length : Int))) (l ++ [((a.length + k.length : Nat) : Int) - 1])
def joinT (n : Nd) (ks : List (List Nd)) : List Nd := (joinA ks [] []).1 ++ [{ n with kids := (joinA ks [] []).2 }]
def sizeT (ts : List TV) : Nat := (ts.map fun t => t.ys.length).sum
theorem sizeT_cons (t : TV) (ts : List TV) : sizeT (t :: ts) = t.ys.length + sizeT ts := by simp [sizeT]
theorem sizeT_drop {ts : List TV} {k : Nat} (h : k < ts.length) : sizeT (ts.drop k) = (gt ts k).ys.length + sizeT (ts.drop (k + 1)) := by rw [drop_gt h, sizeT_cons]
theorem treesN_drop {ts : List TV} {k : Nat} (h : k < ts.length) : (treesN ts).drop k = nds (gt ts k).ys :: (treesN ts).drop (k + 1) := by
  unfold treesN
  rw [← List.map_drop, drop_gt h, List.map_cons, List.map_drop]
def FewT (ts : List TV) : Prop := ∀ t ∈ ts, Few t.ys
theorem row_far {w : World} {B n z b : Nat} {T : TypeId} {v : Value} {xs : List Value} (h : w.ownsRow B T z v n xs) (hb : b < B) (i : Nat) (u : Value) : (w.setCell ⟨b, i, none⟩ u).ownsRow B T z v n xs :=
  ownsRow_setCell_other (a := ⟨b, i, none⟩) h (fun e => by have := (h.lt b e).1; omega) u
theorem OwnN.far {w : World} {B b : Nat} {v : Value} {xs : List NV} (h : OwnN w B v xs) (hb : b < B) (i : Nat) (u : Value) : OwnN (w.setCell ⟨b, i, none⟩ u) B v xs :=
  ⟨row_far h.row hb i u, fun x hx => row_far (h.set x hx) hb i u, fun x hx => row_far (h.kids x hx) hb i u⟩
theorem ownN_join {w w' : World} {B n m : Nat} {v v' : Value} {xs ys : List NV} (h : OwnN w B v xs) (hn : n = xs.length) (hy : ∀ y ∈ ys, OwnR w B (.slice y.ps y.nd.set.length y.cs) y.nd.set ∧ OwnZ w B (.slice y.pk y.nd.kids.length y.ck) y.nd.kids) (hm : m = ys.length)
    (hown : w'.ownsRow B 28 9 v' (n + m) (xs.flatMap encN ++ ys.flatMap encN)) (hg : w.grownBy w' v.ownBlock) : OwnN w' B v' (xs ++ ys) := by
  have ne : ∀ {T' : TypeId} {z' n' : Nat} {v' : Value} {xs' : List Value}, 28 ≠ T' → w.ownsRow B T' z' v' n' xs' → w'.ownsRow B T' z' v' n' xs' := fun {T' z' n' v' xs'} hT hr => by
    refine World.ownsRow.kept hr hg ?_
    rcases h.row.2 with ⟨rfl, _⟩ | ⟨g, cap, cur, rfl, _, hh, _⟩
    · rcases hv : v'.ownBlock with _ | g2
      · exact .inl rfl
      · exact .inr (by simp [Value.ownBlock])
    · exact .inr (row_ne hr hh hT)
  refine ⟨?_, fun y hy' => ?_, fun y hy' => ?_⟩
  · rw [List.length_append, ← hn, ← hm, List.flatMap_append]; exact hown
  · rcases List.mem_append.1 hy' with h1 | h1
    · exact ne (by decide) (h.set y h1)
    · exact ne (by decide) (hy y h1).1
  · rcases List.mem_append.1 hy' with h1 | h1
    · exact ne (by decide) (h.kids y h1)
    · exact ne (by decide) (hy y h1).2

set_option maxHeartbeats 3200000 in
set_option maxRecDepth 100000 in
theorem join_any (x : NV) (p : Option Addr) (m c : Nat) (ts : List TV) (w : World) (hx : NodeIn w x) (hxs : x.nd.set.length ≤ 1000000) (hm : m = ts.length) (hp : SlT w p ts) (hf : FewT ts) (hmm : m ≤ 1000000) (hsz : sizeT ts ≤ 1000000) :
    Calls Tryz.prog 9 #[.agg (encN x).toArray, .slice p m c] w (TreePost w (joinT x.nd (treesN ts))) := by
  obtain ⟨i0, hinf, hz0, hz1, hz2⟩ := info_parts info_node
  obtain ⟨j0, jinf, jz0, jz1, jz2⟩ := info_parts info_intz
  obtain ⟨ls, hls⟩ : ∃ n, n = x.nd.set.length := ⟨_, rfl⟩
  obtain ⟨lk, hlk⟩ : ∃ n, n = x.nd.kids.length := ⟨_, rfl⟩
  have hen : (encN x).toArray = #[.int .u8 x.nd.kind, .slice x.ps ls x.cs, .slice x.pk lk x.ck, .int .i64 x.nd.group, .int .i64 x.nd.mn, .int .i64 x.nd.mx, .int .u8 x.nd.mode, .int .u8 x.nd.spot, .bool x.nd.neg] := by rw [hls, hlk]; rfl
  rw [hen]
  obtain ⟨b0, hb0⟩ : ∃ b, b = w.heap.size := ⟨_, rfl⟩
  obtain ⟨W2, hW2⟩ : ∃ W, W = (w.alloc (.cells #[.int .u8 x.nd.kind, .slice x.ps ls x.cs, .slice x.pk lk x.ck, .int .i64 x.nd.group, .int .i64 x.nd.mn, .int .i64 x.nd.mx, .int .u8 x.nd.mode, .int .u8 x.nd.spot, .bool x.nd.neg] 28)).alloc (.cells #[.slice none 0 0, .slice none 0 0] 34) := ⟨_, rfl⟩
  have hb2 : Below w.heap.size w W2 := by rw [hW2]; exact bl_trans (bl_alloc _ _) (bl_alloc _ _)
  have bN : Bx W2 b0 28 #[.int .u8 x.nd.kind, .slice x.ps ls x.cs, .slice x.pk lk x.ck, .int .i64 x.nd.group, .int .i64 x.nd.mn, .int .i64 x.nd.mx, .int .u8 x.nd.mode, .int .u8 x.nd.spot, .bool x.nd.neg] := by
    rw [hW2, hb0]; exact (Bx.new w _ _).below (bl_alloc _ _)
  have bR : Bx W2 (b0 + 1) 34 #[.slice none 0 0, .slice none 0 0] := by
    have h := Bx.new (w.alloc (.cells #[.int .u8 x.nd.kind, .slice x.ps ls x.cs, .slice x.pk lk x.ck, .int .i64 x.nd.group, .int .i64 x.nd.mn, .int .i64 x.nd.mx, .int .u8 x.nd.mode, .int .u8 x.nd.spot, .bool x.nd.neg] 28)) 34 #[.slice none 0 0, .slice none 0 0]
    rw [World.size_alloc, ← hb0] at h; rw [hW2]; exact h
  have HB2 := Lib.hid hb2
  have HW2 := Lib.hid hW2
  have HBX := Lib.hid (And.intro bN bR)
  have HB0 := Lib.hid hb0
  have HS2 : Hid (W2.heap.size = b0 + 1 + 1) := by show _ = _; rw [hW2, hb0]; simp
  have HP := Lib.hid (hp.below hb2)
  have HF := Lib.hid hf
  have HM := Lib.hid hm
  have HSZ := Lib.hid hsz
  have HXI := Lib.hid (hx.below hb2)
  have HL := Lib.hid (And.intro hls (And.intro hlk hxs))
  have hmI : (m : Int) ≤ 1000000 := by omega
  clear hp hf hm hsz hx hb2 bN bR hW2 hb0 hls hlk hxs hen
  go_enter Tryz.func9, Tryz.ntmps9
  go_wp2
  rw [← HW2.out, ← HB0.out]
  go_loopw [5, 6, 11] (fun av lv iv wr => ∃ (k na nl : Nat) (q : Option Addr) (cq : Nat) (ys : List NV) (r : Option Addr) (cr : Nat) (L : List Int), k ≤ m ∧ na ≤ 1000000 ∧ nl ≤ k ∧ av = .slice q na cq ∧ lv = .slice r nl cr ∧ iv = .int .i64 (k : Nat) ∧ Hid (na = ys.length ∧ nl = L.length ∧ na + sizeT (ts.drop k) ≤ 1000000) ∧ Hid (OwnN wr W2.heap.size (.slice q na cq) ys) ∧ Hid (OwnZ wr W2.heap.size (.slice r nl cr) L) ∧ Hid (joinA ((treesN ts).drop k) (nds ys) L = joinA (treesN ts) [] []) ∧ Hid (∀ g, (Value.slice r nl cr).ownBlock = some g → ∀ y ∈ ys, (Value.slice y.pk y.nd.kids.length y.ck).ownBlock ≠ some g) ∧ Hid (Below W2.heap.size W2 wr)) (fun _ _ iv _ => m - (intOf iv).toNat)
  case atStart => exact ⟨0, 0, 0, none, 0, [], none, 0, [], Nat.zero_le _, by omega, Nat.le_refl _, rfl, rfl, rfl, ⟨rfl, rfl, by have := HSZ.out; simp only [List.drop_zero]; omega⟩, ownN_nil _ _, ownZ_nil _ _, rfl, fun g e => by simp [Value.ownBlock] at e, Below.refl _ _⟩
  case round =>
    obtain ⟨k, na, nl, q, cq, ys, r, cr, L, hk, hna, hnl, rfl, rfl, rfl, HLN, HO, HZ, HJ, HAP, HB⟩ := hrel
    rename World => wr
    by_cases hkm : k < m
    · have hkx : k < ts.length := by have := HM.out; omega
      obtain ⟨b, o, rfl, ct0, ct1, hti⟩ := (HP.out.below HB.out).at hkx
      have hkI : (k : Int) < m := by omega
      obtain ⟨t, ht⟩ : ∃ t, t = gt ts k := ⟨_, rfl⟩
      have htf : Few t.ys := by rw [ht]; exact HF.out _ (gt_mem hkx)
      rw [← ht] at ct0 ct1 hti
      obtain ⟨ly, hly⟩ : ∃ n, n = t.ys.length := ⟨_, rfl⟩
      rw [← hly] at ct0
      have hsz2 : na + ly ≤ 1000000 := by
        have := HLN.out.2.2
        rw [sizeT_drop hkx, ← ht] at this; omega
      have HTI := Lib.hid hti
      have HT := Lib.hid (And.intro ht (And.intro hly (And.intro htf (And.intro hkx hkm))))
      by_cases h0 : ly = 0
      · have hq0 : ((ly : Int) == 0) = true := by rw [h0]; rfl
        have HL0 := Lib.hid h0
        clear hti ht hly htf hkx hkm h0
        have HJ2 : Hid (joinA ((treesN ts).drop (k + 1)) (nds ys) L = joinA (treesN ts) [] []) := by
          show _ = _
          rw [← HJ.out, treesN_drop HT.out.2.2.2.1, ← HT.out.1]
          rw [show joinA (nds t.ys :: (treesN ts).drop (k + 1)) (nds ys) L = if (nds t.ys).length = 0 then joinA ((treesN ts).drop (k + 1)) (nds ys) L else _ from rfl, if_pos (by rw [nds_length, ← HT.out.2.1]; exact HL0.out)]
        have HS5 : Hid (na + sizeT (ts.drop (k + 1)) ≤ 1000000) := by
          show _ ≤ _
          have := HLN.out.2.2
          rw [sizeT_drop HT.out.2.2.2.1] at this; omega
        have hbl := bl_alloc wr (.cells #[.slice t.q ly t.cq, .slice t.na t.nn t.nc] 34)
        have HO5 := Lib.hid (HO.out.below hbl)
        have HZ5 := Lib.hid (ownZ_below HZ.out hbl)
        have HB5 := Lib.hid (HB.out.trans (hbl.mono HB.out.size))
        clear hbl
        go_wp2
        go_roundw
        case rel => exact ⟨k + 1, na, nl, q, cq, ys, r, cr, L, by have := HT.out.2.2.2.2; omega, hna, by omega, rfl, rfl, by go_num, ⟨HLN.out.1, HLN.out.2.1, HS5.out⟩, HO5.out, HZ5.out, HJ2.out, HAP.out, HB5.out⟩
        case measure => have := HT.out.2.2.2.2; simp [intOf]; omega
      · have hq0 : ((ly : Int) == 0) = false := by rw [beq_eq_false_iff_ne]; omega
        have HL0 := Lib.hid h0
        obtain ⟨wa, hwa⟩ : ∃ X, X = wr.alloc (.cells #[.slice t.q ly t.cq, .slice t.na t.nn t.nc] 34) := ⟨_, rfl⟩
        have hbl : Below wr.heap.size wr wa := by rw [hwa]; exact bl_alloc _ _
        have HMV := Lib.hid (moved_any t.q t.cq ly t.ys (na : Int) wa hly (hti.nodes.below hbl) (by omega) htf)
        have HWA := Lib.hid hwa
        have HBL := Lib.hid hbl
        obtain ⟨nb, hnb⟩ : ∃ nb, nb = na + ly := ⟨_, rfl⟩
        have HNB := Lib.hid hnb
        have hnb1 : 1 ≤ nb := by omega
        have hnb2 : nb ≤ 1000000 := by omega
        clear hti ht hly htf hkx hkm h0 hwa hbl hnb hsz2
        go_wp2_with fail
        rw [← HWA.out]
        refine HMV.out.mono ?_
        rintro e w8 ⟨q8, cq8, zs, rfl, ho8, hz8, hb8⟩
        obtain ⟨_, _, e8, hle8, hmx8, hnil8, hsl8⟩ := ho8.form
        simp only [Value.slice.injEq] at e8
        obtain ⟨rfl, hzl, rfl⟩ := e8
        have hO1 := (HO.out.below HBL.out).below hb8
        have hsz8 : W2.heap.size ≤ w8.heap.size := Nat.le_trans HB.out.size (Nat.le_trans HBL.out.size hb8.size)
        have hbyt : (na + ly) ≤ 1000000000000 := by have := HNB.out; omega
        obtain ⟨v9, w9, hrun, hown9, hgrow9⟩ := run_joinX (Ts := 63) (ty := 63) Tryz.underlying63 hinf hz0 hz1 hz2 rfl (by decide) (by decide) (ownN_row hO1 HLN.out.1) (by rw [encN_length, hzl]) (by have := sln_news hsl8; rw [← hzl] at this; exact this) hnil8 (encN_one (a := zs)) hbyt hsz8
        have hO9 : OwnN w9 W2.heap.size v9 (ys ++ zs) := by
          refine ownN_join hO1 HLN.out.1 (fun y hy => ⟨ownR_down (ho8.set y hy) (Nat.le_trans HB.out.size HBL.out.size), ownZ_down (ho8.kids y hy) (Nat.le_trans HB.out.size HBL.out.size)⟩) hzl hown9 hgrow9
        obtain ⟨q9, c9, rfl, _⟩ := hO9.form
        have hl9 : (ys ++ zs).length = nb := by rw [List.length_append, ← HLN.out.1, ← hzl, HNB.out]
        rw [hl9] at hO9 hrun hown9
        have hZ8 := (ownZ_below (ownZ_below HZ.out HBL.out) hb8)
        have hZ9 : OwnZ w9 W2.heap.size (.slice r nl cr) L := by
          refine World.ownsRow.kept hZ8 hgrow9 ?_
          rcases hO1.row.2 with ⟨e1, _⟩ | ⟨g, cap, cur, e1, _, hh, _⟩
          · rw [e1]
            rcases hv : (Value.slice r nl cr).ownBlock with _ | g2
            · exact .inl rfl
            · exact .inr (by simp [Value.ownBlock])
          · rw [e1]; exact .inr (row_ne hZ8 hh (by decide))
        have hB9 : Below W2.heap.size W2 w9 := ((HB.out.trans (HBL.out.mono HB.out.size)).trans (hb8.mono (Nat.le_trans HB.out.size HBL.out.size))).grown hgrow9 hsz8 (fun g e => (hO1.row.lt g e).1)
        have hAP9 : ∀ g, (Value.slice r nl cr).ownBlock = some g → ∀ y ∈ ys ++ zs, (Value.slice y.pk y.nd.kids.length y.ck).ownBlock ≠ some g := by
          intro g hg y hy
          rcases List.mem_append.1 hy with h1 | h1
          · exact HAP.out g hg y h1
          · intro e
            have h2 := (World.ownsRow.lt (ho8.kids y h1) g e).1
            have h3 := (World.ownsRow.lt HZ.out g hg).2
            have h4 := HBL.out.size
            omega
        have HO9 := Lib.hid hO9
        have HRUN := Lib.hid hrun
        have HROW9 := Lib.hid (ownZ_row hZ9 HLN.out.2.1)
        have HB9 := Lib.hid hB9
        have HAP9 := Lib.hid hAP9
        have HZM := Lib.hid hz8
        have HZL := Lib.hid (And.intro hzl hl9)
        have HS9 := Lib.hid hB9.size
        clear ho8 hz8 hb8 hle8 hmx8 hnil8 hsl8 hO1 hsz8 hbyt hrun hown9 hgrow9 hO9 hZ8 hZ9 hB9 hAP9 hzl hl9
        have hnl1 : nl ≤ 1000000 := by omega
        go_wp2_with (first | (at_builtin; refine wpList_append_run (by rfl) _ _ 63 rfl _ _ _ rfl rfl HRUN.out ?_) | (at_builtin; refine wpList_append_lies _ rfl _ _ 24 rfl W2.heap.size 3 j0 (.int .i64 0) 1 8 Tryz.underlying24 jinf jz0 jz1 jz2 rfl (by decide) (.slice r nl cr) nl _ rfl (HROW9.out.alloc _) ⟨w9.heap.size, 0, none⟩ 1 1 [.int .i64 ((nb : Int) - 1)] rfl rfl (cells_one_z _ _ _) (by simp [Value.oneCell']) (by omega) (by simp only [maxLen]; omega) (by omega) (by have := HS9.out; simp; omega) (w9.heap.size + 1) (by simp) ?_))
        intro gg cap w5 hown5 hgrow5 hat5 hlt5
        have hbl := bl_alloc w9 (.cells #[.int .i64 ((nb : Int) - 1)] 3)
        have hZ5 : OwnZ w5 W2.heap.size (.slice (some ⟨gg, 0, none⟩) (nl + 1) cap) (L ++ [(nb : Int) - 1]) := ownZ_appended HLN.out.2.1 hown5
        have hOa := HO9.out.below hbl
        have hO5 : OwnN w5 W2.heap.size (.slice q9 nb c9) (ys ++ zs) := by
          have hnn : ∀ {T' : TypeId} {z' n' : Nat} {v' : Value} {xs' : List Value}, T' ≠ 3 → (w9.alloc (.cells #[.int .i64 ((nb : Int) - 1)] 3)).ownsRow W2.heap.size T' z' v' n' xs' → w5.ownsRow W2.heap.size T' z' v' n' xs' := fun {T' z' n' v' xs'} hT hr => by
            refine World.ownsRow.kept hr hgrow5 ?_
            rcases HROW9.out.2 with ⟨e1, _⟩ | ⟨g, cap, cur, e1, _, hh, _⟩
            · rw [e1]
              rcases hv : v'.ownBlock with _ | g2
              · exact .inl rfl
              · exact .inr (by simp [Value.ownBlock])
            · rw [e1]
              refine .inr (row_ne hr (show (w9.alloc _).heap[g]? = some (.cells cur 3 (0, 0)) from ?_) (Ne.symm hT))
              exact (hbl.block g (lt_of_block hh)).trans hh
          refine ⟨hnn (by decide) hOa.row, fun y hy => hnn (by decide) (hOa.set y hy), fun y hy => ?_⟩
          refine World.ownsRow.kept (hOa.kids y hy) hgrow5 ?_
          rcases hv : (Value.slice y.pk y.nd.kids.length y.ck).ownBlock with _ | g
          · exact .inl rfl
          · right
            intro e
            exact HAP9.out g e.symm y hy hv
        have hB5 : Below W2.heap.size W2 w5 := (HB9.out.trans (hbl.mono HS9.out)).grown hgrow5 (by have := HS9.out; simp; omega) (fun g e => (HROW9.out.lt g e).1)
        have hAP5 : ∀ g, (Value.slice (some ⟨gg, 0, none⟩) (nl + 1) cap).ownBlock = some g → ∀ y ∈ ys ++ zs, (Value.slice y.pk y.nd.kids.length y.ck).ownBlock ≠ some g := by
          intro g hg y hy e
          simp only [Value.ownBlock, Option.some.injEq] at hg
          subst hg
          rcases hat5 with h1 | h1
          · exact HAP9.out gg h1 y hy e
          · have := (World.ownsRow.lt (HO9.out.kids y hy) gg e).2
            omega
        have hJ5 : joinA ((treesN ts).drop (k + 1)) (nds (ys ++ zs)) (L ++ [(nb : Int) - 1]) = joinA (treesN ts) [] [] := by
          have hd := treesN_drop HT.out.2.2.2.1
          rw [← HT.out.1] at hd
          have hy0 : ¬ (nds t.ys).length = 0 := by rw [nds_length, ← HT.out.2.1]; exact HL0.out
          rw [← HJ.out, hd]
          rw [show joinA (nds t.ys :: (treesN ts).drop (k + 1)) (nds ys) L = if (nds t.ys).length = 0 then joinA ((treesN ts).drop (k + 1)) (nds ys) L else joinA ((treesN ts).drop (k + 1)) (nds ys ++ (nds t.ys).map (mv ((nds ys).length : Int))) (L ++ [(((nds ys).length + (nds t.ys).length : Nat) : Int) - 1]) from rfl, if_neg hy0]
          have e1 : nds (ys ++ zs) = nds ys ++ (nds t.ys).map (mv ((nds ys).length : Int)) := by
            unfold nds
            rw [List.map_append, HZM.out, List.map_map, List.length_map, ← HLN.out.1]; rfl
          rw [e1, nds_length, nds_length, ← HLN.out.1, ← HT.out.2.1, ← HNB.out]
        have HZ5 := Lib.hid hZ5
        have HO5 := Lib.hid hO5
        have HB5 := Lib.hid hB5
        have HAP5 := Lib.hid hAP5
        have HJ5 := Lib.hid hJ5
        have HS5 : Hid (nb = (ys ++ zs).length ∧ nl + 1 = (L ++ [(nb : Int) - 1]).length ∧ nb + sizeT (ts.drop (k + 1)) ≤ 1000000) := by
          refine ⟨HZL.out.2.symm, by rw [List.length_append, ← HLN.out.2.1]; rfl, ?_⟩
          have h1 := HLN.out.2.2
          have h2 := HNB.out
          have h3 := HT.out.2.1
          rw [sizeT_drop HT.out.2.2.2.1, ← HT.out.1] at h1
          omega
        clear hown5 hgrow5 hat5 hlt5 hbl hZ5 hOa hO5 hB5 hAP5 hJ5
        go_wp2
        go_roundw
        case rel => exact ⟨k + 1, nb, nl + 1, q9, c9, _, some ⟨gg, 0, none⟩, cap, _, by have := HT.out.2.2.2.2; omega, hnb2, by omega, rfl, rfl, by go_num, HS5.out, HO5.out, HZ5.out, HJ5.out, HAP5.out, HB5.out⟩
        case measure => have := HT.out.2.2.2.2; simp [intOf]; omega
    · have hkI : (m : Int) ≤ k := by omega
      obtain rfl : k = m := by omega
      have hbx := HBX.out.1.below HB.out
      obtain ⟨k0, k1, k2, k3, k4, k5, k6, k7, k8⟩ := nine hbx
      have HBN := Lib.hid hbx
      have HCP := Lib.hid (copyR_any x.ps x.cs ls x.nd.set wr HL.out.1 (HXI.out.set.below HB.out) HXI.out.sn (by have := HL.out.2.2; omega))
      clear hbx
      go_wp2_with fail
      refine HCP.out.mono ?_
      rintro e w6 ⟨q6, e6, rfl, ho6, hb6⟩
      have hbn := HBN.out.below hb6
      obtain ⟨z0, z1, z2, z3, z4, z5, z6, z7, z8⟩ := nine hbn
      have f1 := hbn.free 1
      have f2 := hbn.free 2
      have hlt0 : b0 < W2.heap.size := by have := HS2.out; omega
      have hO6 := ((HO.out.below hb6).far hlt0 1 (.slice q6 ls e6)).far hlt0 2 (.slice r nl cr)
      have hZ6 : OwnZ ((w6.setCell ⟨b0, 1, none⟩ (.slice q6 ls e6)).setCell ⟨b0, 2, none⟩ (.slice r nl cr)) W2.heap.size (.slice r nl cr) L := row_far (row_far (ownZ_below HZ.out hb6) hlt0 1 _) hlt0 2 _
      have hR6 : OwnR ((w6.setCell ⟨b0, 1, none⟩ (.slice q6 ls e6)).setCell ⟨b0, 2, none⟩ (.slice r nl cr)) W2.heap.size (.slice q6 ls e6) x.nd.set := row_far (row_far (ownR_down ho6 HB.out.size) hlt0 1 _) hlt0 2 _
      have hB6 : Below w.heap.size w ((w6.setCell ⟨b0, 1, none⟩ (.slice q6 ls e6)).setCell ⟨b0, 2, none⟩ (.slice r nl cr)) := ((HB2.out.trans ((bl_trans HB.out hb6).mono HB2.out.size)).setCell (p := ⟨b0, 1, none⟩) (Nat.le_of_eq HB0.out.symm) _).setCell (p := ⟨b0, 2, none⟩) (Nat.le_of_eq HB0.out.symm) _
      have hbr : Bx ((w6.setCell ⟨b0, 1, none⟩ (.slice q6 ls e6)).setCell ⟨b0, 2, none⟩ (.slice r nl cr)) (b0 + 1) 34 #[.slice none 0 0, .slice none 0 0] := (((HBX.out.2.below HB.out).below hb6).other (a := ⟨b0, 1, none⟩) (by show b0 + 1 ≠ b0; omega) _).other (a := ⟨b0, 2, none⟩) (by show b0 + 1 ≠ b0; omega) _
      have HRO := Lib.hid (ownN_row hO6 HLN.out.1)
      have HO6 := Lib.hid hO6
      have HZ6 := Lib.hid (And.intro hZ6 hR6)
      have HB6 := Lib.hid hB6
      have HBR := Lib.hid hbr
      have HS6 := Lib.hid (Nat.le_trans HB.out.size hb6.size)
      clear hbn ho6 hb6 hO6 hZ6 hR6 hB6 hbr hlt0 k0 k1 k2 k3 k4 k5 k6 k7 k8
      go_wp2_with (at_builtin; refine wpList_append_own _ rfl _ _ 63 rfl W2.heap.size 28 i0 (.agg #[.int .u8 0, .slice none 0 0, .slice none 0 0, .int .i64 0, .int .i64 0, .int .i64 0, .int .u8 0, .int .u8 0, .bool false]) 9 88 Tryz.underlying63 hinf hz0 hz1 hz2 rfl (by decide) (.slice q na cq) na _ rfl (HRO.out.alloc _) ⟨_, 0, none⟩ 1 1 [.int .u8 x.nd.kind, .slice q6 ls e6, .slice r nl cr, .int .i64 x.nd.group, .int .i64 x.nd.mn, .int .i64 x.nd.mx, .int .u8 x.nd.mode, .int .u8 x.nd.spot, .bool x.nd.neg] rfl rfl ?k1 ?k2 ?k3 ?k4 ?k5 ?_)
      case k1 =>
        have h := cells_nine ((w6.setCell ⟨b0, 1, none⟩ (.slice q6 ls e6)).setCell ⟨b0, 2, none⟩ (.slice r nl cr)) [.int .u8 x.nd.kind, .slice q6 ls e6, .slice r nl cr, .int .i64 x.nd.group, .int .i64 x.nd.mn, .int .i64 x.nd.mx, .int .u8 x.nd.mode, .int .u8 x.nd.spot, .bool x.nd.neg] 28
        simpa using h
      case k2 => simp [Value.oneCell']
      case k3 => simp only [maxLen]; omega
      case k4 => omega
      case k5 => have := HS6.out; simp; omega
      intro v7 w7 hown7 hgrow7 _
      obtain ⟨wb, hwb⟩ : ∃ X, X = (w6.setCell ⟨b0, 1, none⟩ (.slice q6 ls e6)).setCell ⟨b0, 2, none⟩ (.slice r nl cr) := ⟨_, rfl⟩
      rw [← hwb] at HO6 HZ6 HB6 HBR hgrow7 HRO
      have hsw : W2.heap.size ≤ wb.heap.size := by rw [hwb]; simpa using HS6.out
      clear hwb
      have hbl := bl_alloc wb (.cells #[.int .u8 x.nd.kind, .slice q6 ls e6, .slice r nl cr, .int .i64 x.nd.group, .int .i64 x.nd.mn, .int .i64 x.nd.mx, .int .u8 x.nd.mode, .int .u8 x.nd.spot, .bool x.nd.neg] 28)
      obtain ⟨y, hy⟩ : ∃ y : NV, y = ⟨{ x.nd with kids := L }, q6, e6, r, cr⟩ := ⟨_, rfl⟩
      have hey : encN y = [.int .u8 x.nd.kind, .slice q6 ls e6, .slice r nl cr, .int .i64 x.nd.group, .int .i64 x.nd.mn, .int .i64 x.nd.mx, .int .u8 x.nd.mode, .int .u8 x.nd.spot, .bool x.nd.neg] := by
        rw [hy]; unfold encN; simp only; rw [← HL.out.1, ← HLN.out.2.1]
      have hO7 : OwnN w7 W2.heap.size v7 (ys ++ [y]) := by
        refine OwnN.more (HO6.out.below hbl) HLN.out.1 ?_ ?_ (by rw [hey]; exact hown7) hgrow7
        · rw [hy]; show OwnR _ _ (.slice q6 x.nd.set.length e6) x.nd.set
          rw [← HL.out.1]; exact ownR_below HZ6.out.2 hbl
        · rw [hy]; show OwnZ _ _ (.slice r L.length cr) L
          rw [← HLN.out.2.1]; exact ownZ_below HZ6.out.1 hbl
      have hB7 : Below w.heap.size w w7 := (HB6.out.trans (hbl.mono HB6.out.size)).grown hgrow7 (by have := HB6.out.size; simp; omega) (fun g e => by have := (HRO.out.lt g e).1; have := HB2.out.size; omega)
      have hR7 : Bx w7 (b0 + 1) 34 #[.slice none 0 0, .slice none 0 0] := (HBR.out.below hbl).kept hgrow7 (fun e => by have h1 := (HRO.out.lt (b0 + 1) e.symm).1; have := HS2.out; omega)
      have hy7 : na + 1 = (ys ++ [y]).length := by rw [List.length_append, ← HLN.out.1]; rfl
      have hn7 : nds (ys ++ [y]) = joinT x.nd (treesN ts) := by
        have h1 := HJ.out
        rw [List.drop_eq_nil_of_le (by unfold treesN; rw [List.length_map]; have := HM.out; omega)] at h1
        have h2 : joinA (treesN ts) [] [] = (nds ys, L) := h1.symm
        unfold joinT
        rw [h2]
        unfold nds
        rw [List.map_append, hy]; rfl
      obtain ⟨q7, c7, rfl, _⟩ := hO7.form
      rw [← hy7] at hO7 ⊢
      have g0 := hR7.free 0
      have g1 := hR7.free 1
      have j0' : w7.cell? ⟨b0 + 1, 0, none⟩ = some (.slice none 0 0) := hR7.cell rfl
      have j1' : w7.cell? ⟨b0 + 1, 1, none⟩ = some (.slice none 0 0) := hR7.cell rfl
      have HR7 := Lib.hid hR7
      have HO7 := Lib.hid hO7
      have HB7 := Lib.hid hB7
      have HY7 := Lib.hid (And.intro hy7 hn7)
      clear hown7 hgrow7 hbl hO7 hB7 hR7 hy7 hn7 hy hey z0 z1 z2 z3 z4 z5 z6 z7 z8 f1 f2
      go_wp2
      have hR8 := (HR7.out.set 0 (.slice q7 (na + 1) c7)).set 1 (.slice none 0 0)
      have y0 := hR8.cell (i := 0) (v := .slice q7 (na + 1) c7) rfl
      have y1 := hR8.cell (i := 1) (v := .slice none 0 0) rfl
      refine bodyPost_ret (v := .agg #[.slice q7 (na + 1) c7, .slice none 0 0]) (by simp [results, Tryz.results9, go_sem, y0, y1]) rfl ?_
      have hbz : w.heap.size ≤ b0 + 1 := by have := HB0.out; omega
      refine ⟨q7, na + 1, c7, _, HY7.out.1, rfl, ?_, HY7.out.2, (HB7.out.setCell (p := ⟨b0 + 1, 0, none⟩) hbz _).setCell (p := ⟨b0 + 1, 1, none⟩) hbz _⟩
      exact ((HO7.out.other HR7.out (by decide) (by decide) (by decide) 0 (.slice q7 (na + 1) c7)).other (HR7.out.set 0 (.slice q7 (na + 1) c7)) (by decide) (by decide) (by decide) 1 (.slice none 0 0)).down HB2.out.size
end Go.Proofs.YtjpccmiaimkmbaaGreat

