/- Rows of trees; the walk of Kids. -/
import Derived.Test.YtafiekelcoaadaaGreatLm

namespace Go.Proofs.YtafiekelcoaadaaGreat
open Go.RowKit Tnr Tnt

/-- a tree, and where it lies. -/
structure TV where
  q : Option Addr
  cq : Nat
  na : Option Addr
  nn : Nat
  nc : Nat
  ys : List NV
def tv0 : TV := ⟨none, 0, none, 0, 0, []⟩
def encT (t : TV) : List Value := [.slice t.q t.ys.length t.cq, .slice t.na t.nn t.nc]
def gt (l : List TV) (i : Nat) : TV := l.getD i tv0
theorem gt_get {l : List TV} {i : Nat} (h : i < l.length) : gt l i = l[i] := by
  unfold gt
  rw [List.getD_eq_getElem?_getD, List.getElem?_eq_getElem h]; rfl
theorem gt_mem {l : List TV} {k : Nat} (h : k < l.length) : gt l k ∈ l := by rw [gt_get h]; exact List.getElem_mem h
theorem drop_gt {l : List TV} {k : Nat} (h : k < l.length) : l.drop k = gt l k :: l.drop (k + 1) := by
  rw [gt_get h]; exact List.drop_eq_getElem_cons h
theorem take_gt {l : List TV} {k : Nat} (h : k < l.length) : l.take (k + 1) = l.take k ++ [gt l k] := by
  rw [List.take_add_one, List.getElem?_eq_getElem h, gt_get h]; rfl
structure TreeIn (w : World) (t : TV) : Prop where
  nodes : SlN w t.q t.ys
  nil : t.q = none → t.cq = 0
  le : t.ys.length ≤ t.cq
  max : t.cq ≤ 9223372036854775807
theorem TreeIn.below {w w' : World} {t : TV} (h : TreeIn w t) (hb : Below w.heap.size w w') : TreeIn w' t := ⟨h.nodes.below hb, h.nil, h.le, h.max⟩
theorem encT_length (xs : List TV) : (xs.flatMap encT).length = xs.length * 2 := by
  induction xs with
  | nil => rfl
  | cons a l ih => rw [List.flatMap_cons, List.length_append, ih, List.length_cons]; simp [encT]; omega
theorem encT_at : ∀ (l : List TV) (i : Nat), i < l.length → (l.flatMap encT)[i * 2]? = some (.slice (gt l i).q (gt l i).ys.length (gt l i).cq) ∧ (l.flatMap encT)[i * 2 + 1]? = some (.slice (gt l i).na (gt l i).nn (gt l i).nc)
  | [], i, h => by simp at h
  | a :: l, 0, _ => ⟨rfl, rfl⟩
  | a :: l, i + 1, h => by
    have := encT_at l i (by simpa using h)
    rw [List.flatMap_cons, show (i + 1) * 2 = i * 2 + 2 by omega]
    exact this
theorem encT_one {a : List TV} : ∀ u ∈ a.flatMap encT, Value.oneCell' u = true := by
  intro u hu
  rw [List.mem_flatMap] at hu
  obtain ⟨d, _, hd⟩ := hu
  unfold encT at hd
  simp only [List.mem_cons, List.not_mem_nil, or_false] at hd
  rcases hd with rfl | rfl <;> rfl
/-- a slice of trees. -/
structure SlT (w : World) (p : Option Addr) (ts : List TV) : Prop where
  all : ∀ t ∈ ts, TreeIn w t
  cells : ts = [] ∨ ∃ b off, p = some ⟨b, off, none⟩ ∧ ∀ i, i < ts.length → w.cell? ⟨b, off + i * 2, none⟩ = some (.slice (gt ts i).q (gt ts i).ys.length (gt ts i).cq) ∧ w.cell? ⟨b, off + i * 2 + 1, none⟩ = some (.slice (gt ts i).na (gt ts i).nn (gt ts i).nc)
theorem SlT.below {w w' : World} {p : Option Addr} {ts : List TV} (h : SlT w p ts) (hb : Below w.heap.size w w') : SlT w' p ts := by
  refine ⟨fun t ht => (h.all t ht).below hb, ?_⟩
  rcases h.cells with h0 | ⟨b, off, h1, h2⟩
  · exact .inl h0
  · refine .inr ⟨b, off, h1, fun i hi => ?_⟩
    obtain ⟨c1, c2⟩ := h2 i hi
    exact ⟨by rw [hb.cell (World.block_lt_of_cell? w _ c1)]; exact c1, by rw [hb.cell (World.block_lt_of_cell? w _ c2)]; exact c2⟩
theorem SlT.at {w : World} {p : Option Addr} {ts : List TV} (h : SlT w p ts) {k : Nat} (hk : k < ts.length) : ∃ b off, p = some ⟨b, off, none⟩ ∧ w.cell? ⟨b, off + k * 2, none⟩ = some (.slice (gt ts k).q (gt ts k).ys.length (gt ts k).cq) ∧ w.cell? ⟨b, off + k * 2 + 1, none⟩ = some (.slice (gt ts k).na (gt ts k).nn (gt ts k).nc) ∧ TreeIn w (gt ts k) := by
  rcases h.cells with h0 | ⟨b, off, h1, h2⟩
  · rw [h0] at hk; simp at hk
  · obtain ⟨c1, c2⟩ := h2 k hk
    exact ⟨b, off, h1, c1, c2, h.all _ (gt_mem hk)⟩
/-- a row of trees in a block of the call's own. -/
structure OwnT (w : World) (B : Nat) (v : Value) (ts : List TV) : Prop where
  row : w.ownsRow B 25 2 v ts.length (ts.flatMap encT)
  all : ∀ t ∈ ts, OwnN w B (.slice t.q t.ys.length t.cq) t.ys
theorem OwnT.below {w w' : World} {B : Nat} {v : Value} {ts : List TV} (h : OwnT w B v ts) (hb : Below w.heap.size w w') : OwnT w' B v ts :=
  ⟨row_below h.row hb, fun t ht => (h.all t ht).below hb⟩
theorem OwnT.down {w : World} {B B' : Nat} {v : Value} {ts : List TV} (h : OwnT w B v ts) (hB : B' ≤ B) : OwnT w B' v ts :=
  ⟨World.ownsRow.mono h.row hB, fun t ht => (h.all t ht).down hB⟩
theorem ownT_nil (w : World) (B : Nat) : OwnT w B (.slice none 0 0) [] := ⟨World.ownsRow_nil w B _ 2, fun _ h => by simp at h⟩
theorem treeIn_own {w : World} {B : Nat} {t : TV} (h : OwnN w B (.slice t.q t.ys.length t.cq) t.ys) : TreeIn w t := by
  obtain ⟨p, c, e, h1, h2, h3, h4⟩ := h.form
  simp only [Value.slice.injEq, true_and] at e
  obtain ⟨rfl, rfl⟩ := e
  exact ⟨h4, h3, h1, h2⟩
theorem OwnT.form {w : World} {B : Nat} {v : Value} {ts : List TV} (h : OwnT w B v ts) : ∃ p c, v = .slice p ts.length c ∧ ts.length ≤ c ∧ c ≤ 9223372036854775807 ∧ (p = none → c = 0) ∧ SlT w p ts := by
  have hall : ∀ t ∈ ts, TreeIn w t := fun t ht => treeIn_own (h.all t ht)
  have h' := h.row
  rcases h.row.2 with ⟨rfl, hn⟩ | ⟨g, cap, cur, rfl, hb, hg, hnc, hcm, hcs, htake⟩
  · have hl : ts = [] := List.eq_nil_of_length_eq_zero hn
    subst hl
    exact ⟨none, 0, rfl, by simp, by omega, fun _ => rfl, hall, .inl rfl⟩
  · refine ⟨some ⟨g, 0, none⟩, cap, rfl, hnc, by simpa [maxLen] using hcm, by simp, hall, .inr ⟨g, 0, rfl, fun i hi => ?_⟩⟩
    obtain ⟨e1, e2⟩ := encT_at ts i hi
    rw [Nat.zero_add, h'.cellAt (i * 2) (by omega), h'.cellAt (i * 2 + 1) (by omega)]
    exact ⟨e1, e2⟩
theorem info_tree : (Tryz.prog.info? 25).map (fun i => (i.zero, i.size, i.bytes)) = some (some (.agg #[.slice none 0 0, .slice none 0 0]), 2, 48) := by kernel_rfl
/-- a row of nodes beside a block of another kind that grows. -/
theorem OwnN.beside {w w' : World} {B n z : Nat} {T : TypeId} {u v : Value} {xs : List NV} {us : List Value} (h : OwnN w B v xs) (ho : w.ownsRow B T z u n us) (hg : w.grownBy w' u.ownBlock) (h1 : T ≠ 40) (h2 : T ≠ 56) (h3 : T ≠ 3) : OwnN w' B v xs := by
  have kept : ∀ {T' : TypeId} {z' n' : Nat} {v' : Value} {xs' : List Value}, T ≠ T' → w.ownsRow B T' z' v' n' xs' → w'.ownsRow B T' z' v' n' xs' := fun {T' z' n' v' xs'} hT hr => by
    refine World.ownsRow.kept hr hg ?_
    rcases ho.2 with ⟨rfl, _⟩ | ⟨g, cap, cur, rfl, _, hh, _⟩
    · rcases hv : v'.ownBlock with _ | g2
      · exact .inl rfl
      · exact .inr (by simp [Value.ownBlock])
    · exact .inr (row_ne hr hh hT)
  exact ⟨kept h1 h.row, fun x hx => kept h2 (h.set x hx), fun x hx => kept h3 (h.kids x hx)⟩
/-- one tree more, at the end. -/
theorem OwnT.more {w w' : World} {B n : Nat} {v v' : Value} {ts : List TV} {t : TV} (h : OwnT w B v ts) (hn : n = ts.length) (ht : OwnN w B (.slice t.q t.ys.length t.cq) t.ys)
    (hown : w'.ownsRow B 25 2 v' (n + 1) (ts.flatMap encT ++ encT t)) (hg : w.grownBy w' v.ownBlock) : OwnT w' B v' (ts ++ [t]) := by
  refine ⟨?_, fun y hy => ?_⟩
  · rw [List.length_append, ← hn, List.flatMap_append, show [t].flatMap encT = encT t by simp]; exact hown
  · have k : OwnN w B (.slice y.q y.ys.length y.cq) y.ys := by
      rcases List.mem_append.1 hy with hy | hy
      · exact h.all y hy
      · simp only [List.mem_singleton] at hy; subst hy; exact ht
    exact k.beside h.row hg (by decide) (by decide) (by decide)
theorem ownT_row {w : World} {B no d : Nat} {q : Option Addr} {l : List TV} (h : OwnT w B (.slice q no d) l) (hn : no = l.length) : w.ownsRow B 25 2 (.slice q no d) no (l.flatMap encT) := by
  have := h.row; rw [← hn] at this; exact this

/-- the kids' trees. -/
def kidsT (ns : List Nd) : List (List Nd) := match ordT ns with
  | none => []
  | some l => ((ns.getD (ns.length - 1) nd0).kids).map fun k => covN ns (gf l k.toNat).1 k.toNat
def treesN (ts : List TV) : List (List Nd) := ts.map fun t => nds t.ys
theorem gn_nd {xs : List NV} {i : Nat} (h : i < xs.length) : (nds xs).getD i nd0 = (gn xs i).nd := by
  rw [List.getD_eq_getElem?_getD]
  unfold nds
  rw [List.getElem?_map, List.getElem?_eq_getElem h, gn_get h]; rfl
def KidsPost (w : World) (L : List (List Nd)) (e : Ending) (w' : World) : Prop :=
  ∃ q m cq ts, m = ts.length ∧ e = .returned (.slice q m cq) ∧ OwnT w' w.heap.size (.slice q m cq) ts ∧ treesN ts = L ∧ (∀ t ∈ ts, t.na = none ∧ t.nn = 0 ∧ t.nc = 0) ∧ Below w.heap.size w w'

set_option maxHeartbeats 3200000 in
set_option maxRecDepth 100000 in
theorem kids_any (p : Option Addr) (n c : Nat) (xs : List NV) (names : Value) (w : World) (hn : n = xs.length) (hnm : n ≤ 1000000000) (hc : n ≤ c) (hcm : c ≤ 9223372036854775807) (hp : SlN w p xs) (hf : Few xs) :
    Calls Tryz.prog 26 #[.agg #[.slice p n c, names]] w (KidsPost w (kidsT (nds xs))) := by
  obtain ⟨i0, hinf, hz0, hz1, hz2⟩ := info_parts info_tree
  obtain ⟨W1, hW1⟩ : ∃ W, W = w.alloc (.cells #[.slice p n c, names] 25) := ⟨_, rfl⟩
  have hb1 : Below w.heap.size w W1 := by rw [hW1]; exact bl_alloc _ _
  have HO := Lib.hid (ordered_any p n c xs names W1 hn hnm (hp.below hb1) hf)
  have HB1 := Lib.hid hb1
  have HW1 := Lib.hid hW1
  have HN := Lib.hid hn
  have HP := Lib.hid hp
  have HF := Lib.hid hf
  have HC := Lib.hid (And.intro hc hcm)
  clear hp hf hb1 hW1 hn hnm hc hcm
  go_enter Tryz.func26, Tryz.ntmps26
  go_wp2_with fail
  rw [← HW1.out]
  refine HO.out.mono ?_
  rintro e w5 ⟨hb5, ⟨ho, a0, n0, c0, a1, n1, c1, a2, n2, c2, rfl⟩ | ⟨l, pf, cf, pd, cd, ho, hl, hF, rfl, hfs, hds⟩⟩
  · have HOR := Lib.hid ho
    have HB5 := Lib.hid (bl_trans HB1.out hb5)
    clear ho hb5
    go_wp2
    go_ret
    exact ⟨none, 0, 0, [], rfl, rfl, ownT_nil _ _, by unfold kidsT; rw [HOR.out]; rfl, fun _ h => by simp at h, bl_trans HB5.out (bl_alloc _ _)⟩
  · obtain ⟨h1, h4⟩ := ordT_len ho
    rw [nds_length, ← HN.out] at h1 h4
    obtain ⟨W6, hW6⟩ : ∃ W, W = w5.alloc (.cells #[.slice p n c, .slice pf n cf, .slice pd n cd] 68) := ⟨_, rfl⟩
    have hba : Below w5.heap.size w5 W6 := by rw [hW6]; exact bl_alloc _ _
    have hbw : Below w.heap.size w W6 := bl_trans (bl_trans HB1.out hb5) hba
    have bT : Bx W6 w5.heap.size 68 #[.slice p n c, .slice pf n cf, .slice pd n cd] := by rw [hW6]; exact Bx.new _ _ _
    have HLA := Lib.hid (last_any p n c xs W6 HN.out h1 h4 (HP.out.below hbw))
    have hnk : n - 1 < xs.length := by have := HN.out; omega
    obtain ⟨y, hy⟩ : ∃ y, y = gn xs (n - 1) := ⟨_, rfl⟩
    have HKI : Hid (∀ k ∈ y.nd.kids, 0 ≤ k ∧ k < ((n - 1 : Nat) : Int)) := by
      have hh := ordOk_kid (ordT_ok ho).1 (i := n - 1) (by rw [nds_length]; exact hnk)
      have e : (nds xs)[n - 1]'(by rw [nds_length]; exact hnk) = y.nd := by
        rw [hy, gn_get hnk]; simp [nds]
      rw [e] at hh
      exact hh
    have HKT : Hid (kidsT (nds xs) = y.nd.kids.map fun k => covN (nds xs) (gf l k.toNat).1 k.toNat) := by
      show _ = _
      unfold kidsT
      rw [ho]
      simp only
      rw [nds_length, ← HN.out, gn_nd hnk, ← hy]
    have hyin : NodeIn W6 y := by rw [hy]; exact (HP.out.below hbw).all _ (gn_mem hnk)
    have hyf : y.nd.kids.length ≤ 1000000 := by rw [hy]; exact (HF.out _ (gn_mem hnk)).1
    rw [← hy] at HLA
    obtain ⟨ls, hls⟩ : ∃ n, n = y.nd.set.length := ⟨_, rfl⟩
    obtain ⟨lk, hlk⟩ : ∃ n, n = y.nd.kids.length := ⟨_, rfl⟩
    have HEN : Hid ((encN y).toArray = #[.int .u8 y.nd.kind, .slice y.ps ls y.cs, .slice y.pk lk y.ck, .int .i64 y.nd.group, .int .i64 y.nd.mn, .int .i64 y.nd.mx, .int .u8 y.nd.mode, .int .u8 y.nd.spot, .bool y.nd.neg]) := by show _ = _; rw [hls, hlk]; rfl
    rw [HEN.out] at HLA
    rw [← hlk] at hyf
    have HLK := Lib.hid hlk
    have HYI := Lib.hid hyin
    have HT6 := Lib.hid bT
    have HW6 := Lib.hid hW6
    have HB6 := Lib.hid hbw
    have HFS := Lib.hid (And.intro (ownZ_below hfs hba) (ownZ_below hds hba))
    have HLL := Lib.hid (And.intro hl (And.intro hF (And.intro h1 h4)))
    have HSZ := Lib.hid hb5.size
    clear ho hl hF hfs hds hb5 hba hbw bT hW6 hnk hy hyin hls hlk h1 h4
    go_wp2_with fail
    rw [← HW6.out]
    refine HLA.out.mono ?_
    rintro e w7 ⟨rfl, hb7⟩
    have HB7 := Lib.hid hb7
    have hlkI : (lk : Int) ≤ 1000000 := by omega
    have hfd : ∀ W : World, (Instr.field 40 (.agg #[.int .u8 y.nd.kind, .slice y.ps ls y.cs, .slice y.pk lk y.ck, .int .i64 y.nd.group, .int .i64 y.nd.mn, .int .i64 y.nd.mx, .int .u8 y.nd.mode, .int .u8 y.nd.spot, .bool y.nd.neg]) 2).run Tryz.prog W = .ok (.slice y.pk lk y.ck) W := fun _ => by kernel_rfl
    clear hb7
    go_wp2
    clear hfd
    go_loopw [5, 20] (fun ov iv wr => ∃ (j : Nat) (q : Option Addr) (cq : Nat) (ts : List TV), j ≤ lk ∧ ov = .slice q j cq ∧ iv = .int .i64 (j : Nat) ∧ Hid (j = ts.length) ∧ Hid (OwnT wr W6.heap.size (.slice q j cq) ts) ∧ Hid (treesN ts = (y.nd.kids.take j).map fun k => covN (nds xs) (gf l k.toNat).1 k.toNat) ∧ Hid (∀ t ∈ ts, t.na = none ∧ t.nn = 0 ∧ t.nc = 0) ∧ Hid (Below W6.heap.size W6 wr)) (fun _ iv _ => lk - (intOf iv).toNat)
    case atStart => exact ⟨0, none, 0, [], Nat.zero_le _, rfl, rfl, rfl, ownT_nil _ _, rfl, fun _ h => by simp at h, HB7.out⟩
    case round =>
      obtain ⟨j, q, cq, ts, hj, rfl, rfl, HJL, HOT, HTN, HNA, HBR⟩ := hrel
      rename World => wr
      by_cases hjk : j < lk
      · have hjx : j < y.nd.kids.length := by have := HLK.out; omega
        obtain ⟨b, o, hpk, hck⟩ := slz_at (HYI.out.kids.below HBR.out) hjx
        obtain ⟨hk0, hk1⟩ := HKI.out (gz y.nd.kids j) (by rw [gz_get hjx]; exact List.getElem_mem _)
        obtain ⟨k, hk⟩ : ∃ k : Nat, gz y.nd.kids j = (k : Nat) := ⟨(gz y.nd.kids j).toNat, by omega⟩
        rw [hk] at hck
        have hkn : k < n := by omega
        have hjI : (j : Int) < lk := by omega
        have hTB := HT6.out.below HBR.out
        obtain ⟨t0, t1, t2⟩ := three hTB
        have HCV := Lib.hid (covered_any p pf pd n c cf cd k xs l W1.heap.size wr HN.out HLL.out.1 HLL.out.2.2.2 HC.out.1 HC.out.2 hkn HLL.out.2.1 ((HP.out.below HB6.out).below HBR.out) HF.out (ownZ_below HFS.out.1 HBR.out))
        have HK := Lib.hid hk
        have HJX := Lib.hid (And.intro hjk hjx)
        rw [hpk]
        clear hk0 hk1 hk hkn hTB hjx hjk
        go_wp2_with fail
        refine HCV.out.mono ?_
        rintro e w8 ⟨q8, m8, cq8, ys8, hm8, rfl, ho8, hy8, hb8⟩
        have hbl := bl_alloc w8 (.cells #[.slice q8 m8 cq8, .slice none 0 0] 25)
        have hwr : W6.heap.size ≤ wr.heap.size := HBR.out.size
        have HOT8 := Lib.hid ((HOT.out.below hb8).below hbl)
        have HRW := Lib.hid (ownT_row (HOT.out.below hb8) HJL.out)
        have HO8 := Lib.hid ((ho8.down hwr).below hbl)
        have HM8 := Lib.hid (And.intro hm8 hy8)
        have HB8 := Lib.hid (bl_trans (bl_trans HBR.out hb8) hbl)
        have HZ8 := Lib.hid (Nat.le_trans hwr hb8.size)
        have HS8 := Lib.hid (bl_trans HBR.out hb8)
        clear ho8 hm8 hy8 hb8 hbl hwr t0 t1 t2 hck
        go_wp2_with (at_builtin; refine wpList_append_own _ rfl _ _ 41 rfl W6.heap.size 25 i0 (.agg #[.slice none 0 0, .slice none 0 0]) 2 48 Tryz.underlying41 hinf hz0 hz1 hz2 rfl (by decide) (.slice q j cq) j _ rfl (HRW.out.alloc _) ⟨w8.heap.size, 0, none⟩ 1 1 [.slice q8 m8 cq8, .slice none 0 0] rfl rfl ?k1 ?k2 ?k3 ?k4 ?k5 ?_)
        case k1 => exact cells_nine w8 _ _
        case k2 => simp [Value.oneCell']
        case k3 => simp only [maxLen]; omega
        case k4 => omega
        case k5 => have := HZ8.out; simp; omega
        intro v9 w9 hown9 hgrow9 _
        have hO9 : OwnT w9 W6.heap.size v9 (ts ++ [⟨q8, cq8, none, 0, 0, ys8⟩]) := by
          refine OwnT.more (t := ⟨q8, cq8, none, 0, 0, ys8⟩) HOT8.out HJL.out ?_ ?_ hgrow9
          · show OwnN _ _ (.slice q8 ys8.length cq8) ys8
            rw [← HM8.out.1]; exact HO8.out
          · show w9.ownsRow _ _ 2 v9 (j + 1) (ts.flatMap encT ++ [.slice q8 ys8.length cq8, .slice none 0 0])
            rw [← HM8.out.1]; exact hown9
        have hb9 : Below W6.heap.size W6 w9 := HB8.out.grown hgrow9 (by have := HZ8.out; simp; omega) (fun g hg => (HRW.out.lt g hg).1)
        obtain ⟨q9, e9, rfl, _⟩ := hO9.form
        have hj9 : j + 1 = (ts ++ [(⟨q8, cq8, none, 0, 0, ys8⟩ : TV)]).length := by rw [List.length_append, ← HJL.out]; rfl
        have hT9 : treesN (ts ++ [⟨q8, cq8, none, 0, 0, ys8⟩]) = (y.nd.kids.take (j + 1)).map fun k => covN (nds xs) (gf l k.toNat).1 k.toNat := by
          rw [gz_take HJX.out.2, List.map_append, ← HTN.out, HK.out]
          unfold treesN
          rw [List.map_append]
          congr 1
          show [nds ys8] = [_]
          rw [HM8.out.2]; rfl
        rw [← hj9] at hO9 ⊢
        have HO9 := Lib.hid hO9
        have HB9 := Lib.hid hb9
        have HT9 := Lib.hid hT9
        have HJ9 := Lib.hid hj9
        have HNA9 : Hid (∀ t ∈ ts ++ [(⟨q8, cq8, none, 0, 0, ys8⟩ : TV)], t.na = none ∧ t.nn = 0 ∧ t.nc = 0) := by
          intro t ht
          rcases List.mem_append.1 ht with ht | ht
          · exact HNA.out t ht
          · simp only [List.mem_singleton] at ht; subst ht; exact ⟨rfl, rfl, rfl⟩
        clear hown9 hgrow9 hO9 hb9 hT9 hj9
        go_wp2
        go_roundw
        case rel => exact ⟨j + 1, q9, e9, _, by have := HJX.out.1; omega, rfl, by go_num, HJ9.out, HO9.out, HT9.out, HNA9.out, HB9.out⟩
        case measure => have := HJX.out.1; simp [intOf]; omega
      · have hjI : (lk : Int) ≤ j := by omega
        obtain rfl : j = lk := by omega
        go_wp2
        go_ret
        refine ⟨q, j, cq, ts, HJL.out, rfl, HOT.out.down HB6.out.size, ?_, HNA.out, bl_trans HB6.out HBR.out⟩
        rw [HTN.out, HKT.out, List.take_of_length_le (by rw [← HLK.out]; exact Nat.le_refl _)]
end Go.Proofs.YtafiekelcoaadaaGreat
