import Derived.Test.YtkefndfgkmdphaaGreatFaq
import Derived.Test.YtkefndfgkmdphaaGreatFb
import Derived.Test.YtkefndfgkmdphaaGreatJy
import Derived.Test.YtkefndfgkmdphaaGreatFjk

namespace Go.Proofs.YtkefndfgkmdphaaGreat
open Go.RowKit Tnr Tnt

theorem blk_ad (p : Option Nat) : blk (p.map fun b => (⟨b, 0, none⟩ : Addr)) = p := by cases p <;> rfl
theorem own_d {w : World} {B sz n m c : Nat} {T : TypeId} {p : Option Addr} {xs : List Value} (h : w.ownsRow B T sz (.slice p m c) n xs) :
  Value.slice p m c = D.val ⟨blk p, m, c⟩ ∧ Room w sz ⟨blk p, m, c⟩ ∧ ∀ b, blk p = some b → b < w.heap.size ∧ ∃ cur, w.heap[b]? = some (.cells cur T (0, 0)) := by
 obtain ⟨d, h1, h2, h3, _, _⟩ := room_of_own h
 obtain ⟨dp, dn, dc⟩ := d
 simp only [D.val, D.ad, Value.slice.injEq] at h1
 obtain ⟨rfl, rfl, rfl⟩ := h1
 rw [blk_ad]
 refine ⟨rfl, h3, fun b e => ⟨h3.lt b e, ?_⟩⟩
 rcases h.2 with ⟨e1, _⟩ | ⟨g, cap, cur, e1, _, hh, _⟩
 ·simp only [Value.slice.injEq] at e1
  rw [e] at e1; simp at e1
 ·simp only [Value.slice.injEq] at e1
  rw [e] at e1
  simp only [Option.map_some, Option.some.injEq, Addr.mk.injEq] at e1
  obtain ⟨⟨rfl, _⟩, _⟩ := e1
  exact ⟨cur, hh⟩
theorem dg_map {α : Type} {f : α → D} {l : List α} {k : Nat} (hk : k < (l.map f).length) : ∃ x ∈ l, dg (l.map f) k = f x := by
 rw [List.length_map] at hk
 refine ⟨l[k], List.getElem_mem hk, ?_⟩
 unfold dg
 rw [List.getD_eq_getElem?_getD, List.getElem?_map, List.getElem?_eq_getElem hk]; rfl
theorem inD_map {α : Type} {f : α → D} {l : List α} {b : Nat} (h : InD (l.map f) b) : ∃ x ∈ l, (f x).p = some b := by
 obtain ⟨k, hk, e⟩ := h
 obtain ⟨x, hx, e2⟩ := dg_map hk
 exact ⟨x, hx, by rw [← e2]; exact e⟩
theorem far_map {α : Type} {f : α → D} {l : List α} (h : l.Pairwise fun x y => ∀ b, (f x).p = some b → (f y).p ≠ some b) : Far (l.map f) := by
 intro i j b hi hj ei ej
 rw [List.length_map] at hi hj
 have gi : dg (l.map f) i = f l[i] := by unfold dg; rw [List.getD_eq_getElem?_getD, List.getElem?_map, List.getElem?_eq_getElem hi]; rfl
 have gj : dg (l.map f) j = f l[j] := by unfold dg; rw [List.getD_eq_getElem?_getD, List.getElem?_map, List.getElem?_eq_getElem hj]; rfl
 rw [gi] at ei
 rw [gj] at ej
 rw [List.pairwise_iff_getElem] at h
 rcases Nat.lt_trichotomy i j with hlt | e | hlt
 ·exact absurd ej (h i j hi hj hlt b ei)
 ·exact e
 ·exact absurd ei (h j i hj hi hlt b ej)
def dS (x : NV) : D := ⟨blk x.ps, x.nd.set.length, x.cs⟩
def dK (x : NV) : D := ⟨blk x.pk, x.nd.kids.length, x.ck⟩
def dQ (t : TV) : D := ⟨blk t.q, t.ys.length, t.cq⟩
def dN (t : TV) : D := ⟨blk t.na, t.nn, t.nc⟩
def dR (r : TR) : D := ⟨blk r.p, r.n, r.c⟩
def dsT (rs : List TR) : Nat → List D
 | 2 => ((rs.flatMap TR.ts).flatMap TV.ys).map dK
 | 4 => (rs.flatMap TR.ts).map dN
 | 8 => ((rs.flatMap TR.ts).flatMap TV.ys).map dS
 | 12 => (rs.flatMap TR.ts).map dQ
 | 13 => rs.map dR
 | _ => []
def tyD : Nat → TypeId
 | 2 => 3
 | 4 => 9
 | 8 => 63
 | 12 => 28
 | 13 => 34
 | _ => 0
structure RsIn (w : World) (rs : List TR) : Prop where
 all : ∀ t ∈ rs.flatMap TR.ts, OwnN w 0 (.slice t.q t.ys.length t.cq) t.ys ∧ t.na = none ∧ t.nn = 0 ∧ t.nc = 0
 row : ∀ r ∈ rs, r.n = r.ts.length ∧ w.ownsRow 0 34 2 (.slice r.p r.n r.c) r.n (r.ts.flatMap encT)
 dis : DisT (rs.flatMap TR.ts)
 far : rs.Pairwise fun x y => ∀ b, blk x.p = some b → blk y.p ≠ some b
 m8 : ((rs.flatMap TR.ts).flatMap TV.ys).length ≤ 20000
 m12 : (rs.flatMap TR.ts).length ≤ 20000
 m13 : rs.length ≤ 20000
 few : ∀ t ∈ rs.flatMap TR.ts, t.ys.length ≤ 100000 ∧ ∀ x ∈ t.ys, x.nd.kids.length ≤ 100000 ∧ x.nd.set.length ≤ 100000
theorem RsIn.ok {w : World} {rs : List TR} (h : RsIn w rs) : ApOk w rs (dsT rs) := by
 have hs : ∀ x ∈ (rs.flatMap TR.ts).flatMap TV.ys, OwnR w 0 (.slice x.ps x.nd.set.length x.cs) x.nd.set ∧ OwnZ w 0 (.slice x.pk x.nd.kids.length x.ck) x.nd.kids ∧ x.nd.kids.length ≤ 100000 ∧ x.nd.set.length ≤ 100000 := fun x hx => by
  obtain ⟨t, ht, hx⟩ := List.mem_flatMap.1 hx
  exact ⟨(h.all t ht).1.set x hx, (h.all t ht).1.kids x hx, (h.few t ht).2 x hx⟩
 have h8 := fun x hx => own_d (hs x hx).1
 have h2 := fun x hx => own_d (hs x hx).2.1
 have h12 := fun t ht => own_d (h.all t ht).1.row
 have h13 := fun r hr => own_d (h.row r hr).2
 have hin : ∀ j b, InD (dsT rs j) b → b < w.heap.size ∧ ∃ cur, w.heap[b]? = some (.cells cur (tyD j) (0, 0)) := fun j b hb => by
  match j, hb with
  | 2, hb => obtain ⟨x, hx, e⟩ := inD_map (f := dK) hb; exact (h2 x hx).2.2 b e
  | 8, hb => obtain ⟨x, hx, e⟩ := inD_map (f := dS) hb; exact (h8 x hx).2.2 b e
  | 12, hb => obtain ⟨x, hx, e⟩ := inD_map (f := dQ) hb; exact (h12 x hx).2.2 b e
  | 13, hb => obtain ⟨x, hx, e⟩ := inD_map (f := dR) hb; exact (h13 x hx).2.2 b e
  | 4, hb =>
   obtain ⟨x, hx, e⟩ := inD_map (f := dN) hb
   have := (h.all x hx).2.1
   simp only [dN, this, blk] at e
   cases e
  | 0, hb | 1, hb | 3, hb | 5, hb | 6, hb | 7, hb | 9, hb | 10, hb | 11, hb => obtain ⟨t, ht, _⟩ := hb; simp [dsT] at ht
  | j + 14, hb => obtain ⟨t, ht, _⟩ := hb; simp [dsT] at ht
 refine ⟨fun j hj => ?_, fun k hk => ?_, fun k hk => ?_, fun k hk => ?_, fun k hk => ?_, fun k hk => ?_, fun j => ?_, fun j => ?_, fun j k hk => ?_, fun i j b hne h1 h2' => ?_, fun j b hb => (hin j b hb).1, fun r hr => ?_⟩
 ·obtain ⟨a, b, c, d, f, g⟩ := putsV_at rs (fun _ => [])
  match j, hj with
  | 2, _ => rw [b, List.nil_append]; show _ = (List.map dK _).map D.val; rw [List.map_map]; exact List.map_congr_left fun x hx => (h2 x hx).1
  | 8, _ => rw [a, List.nil_append]; show _ = (List.map dS _).map D.val; rw [List.map_map]; exact List.map_congr_left fun x hx => (h8 x hx).1
  | 12, _ => rw [d, List.nil_append]; show _ = (List.map dQ _).map D.val; rw [List.map_map]; exact List.map_congr_left fun x hx => (h12 x hx).1
  | 13, _ => rw [f, List.nil_append]; show _ = (List.map dR _).map D.val; rw [List.map_map]; exact List.map_congr_left fun x hx => (h13 x hx).1
  | 4, _ => rw [c, List.nil_append]; show _ = (List.map dN _).map D.val; rw [List.map_map]; exact List.map_congr_left fun x hx => by
              obtain ⟨_, e1, e2, e3⟩ := h.all x hx
              simp only [Function.comp, dN, e1, e2, e3]; rfl
  | 0, _ | 1, _ | 3, _ | 5, _ | 6, _ | 7, _ | 9, _ | 10, _ | 11, _ | 14, _ | 15, _ | 16, _ | 17, _ | 18, _ | 19, _ => rw [g _ (by decide) (by decide) (by decide) (by decide) (by decide)]; rfl
  | j + 20, hj => exact absurd hj (by omega)
 ·obtain ⟨x, hx, e⟩ := dg_map (f := dK) hk
  show Room w 1 (dg (List.map dK _) k)
  rw [e]; exact (h2 x hx).2.1
 ·obtain ⟨x, hx, e⟩ := dg_map (f := dN) hk
  show Room w 1 (dg (List.map dN _) k)
  obtain ⟨_, e1, e2, e3⟩ := h.all x hx
  rw [e]
  simp only [dN, e1, e2, e3]
  refine ⟨Nat.le_refl _, Nat.zero_le _, fun _ => rfl, fun b e => ?_, fun b e => ?_⟩
  ·simp [blk] at e
  ·simp [blk] at e
 ·obtain ⟨x, hx, e⟩ := dg_map (f := dS) hk
  show Room w 2 (dg (List.map dS _) k)
  rw [e]; exact (h8 x hx).2.1
 ·obtain ⟨x, hx, e⟩ := dg_map (f := dQ) hk
  show Room w 9 (dg (List.map dQ _) k)
  rw [e]; exact (h12 x hx).2.1
 ·obtain ⟨x, hx, e⟩ := dg_map (f := dR) hk
  show Room w 2 (dg (List.map dR _) k)
  rw [e]; exact (h13 x hx).2.1
 ·have nilF : Far [] := fun i j b hi => by simp at hi
  match j with
  | 2 => exact far_map (h.dis.1.imp fun h => h.2)
  | 8 => exact far_map (h.dis.1.imp fun h => h.1)
  | 12 => exact far_map h.dis.2
  | 13 => exact far_map h.far
  | 4 =>
   intro i j b hi hj ei ej
   obtain ⟨x, hx, e⟩ := dg_map (f := dN) hi
   have ei2 : (dg (List.map dN _) i).p = some b := ei
   rw [e] at ei2
   simp only [dN, (h.all x hx).2.1, blk] at ei2
   cases ei2
  | 0 | 1 | 3 | 5 | 6 | 7 | 9 | 10 | 11 => exact nilF
  | j + 14 => exact nilF
 ·match j with
  | 2 => show (List.map dK _).length ≤ 20000; rw [List.length_map]; exact h.m8
  | 8 => show (List.map dS _).length ≤ 20000; rw [List.length_map]; exact h.m8
  | 12 => show (List.map dQ _).length ≤ 20000; rw [List.length_map]; exact h.m12
  | 13 => show (List.map dR _).length ≤ 20000; rw [List.length_map]; exact h.m13
  | 4 => show (List.map dN _).length ≤ 20000; rw [List.length_map]; exact h.m12
  | 0 | 1 | 3 | 5 | 6 | 7 | 9 | 10 | 11 => exact Nat.zero_le _
  | j + 14 => exact Nat.zero_le _
 ·match j, hk with
  | 2, hk => obtain ⟨x, hx, e⟩ := dg_map (f := dK) hk; show (dg (List.map dK _) k).n ≤ _; rw [e]; exact (hs x hx).2.2.1
  | 8, hk => obtain ⟨x, hx, e⟩ := dg_map (f := dS) hk; show (dg (List.map dS _) k).n ≤ _; rw [e]; exact (hs x hx).2.2.2
  | 12, hk => obtain ⟨x, hx, e⟩ := dg_map (f := dQ) hk; show (dg (List.map dQ _) k).n ≤ _; rw [e]; exact (h.few x hx).1
  | 13, hk =>
   obtain ⟨r, hr, e⟩ := dg_map (f := dR) hk
   show (dg (List.map dR _) k).n ≤ _
   rw [e]
   have h1 := (h.row r hr).1
   have h3 : r.ts.length ≤ (rs.flatMap TR.ts).length := (List.sublist_flatten_of_mem (List.mem_map_of_mem hr)).length_le
   have := h.m12
   show r.n ≤ 100000
   omega
  | 4, hk => obtain ⟨x, hx, e⟩ := dg_map (f := dN) hk; show (dg (List.map dN _) k).n ≤ _; rw [e]; simp only [dN, (h.all x hx).2.2.1]; exact Nat.zero_le _
  | 0, hk | 1, hk | 3, hk | 5, hk | 6, hk | 7, hk | 9, hk | 10, hk | 11, hk => exact absurd hk (Nat.not_lt_zero _)
  | j + 14, hk => exact absurd hk (Nat.not_lt_zero _)
 ·obtain ⟨_, c1, e1⟩ := hin i b h1
  obtain ⟨_, c2, e2⟩ := hin j b h2'
  rw [e1] at e2
  simp only [Option.some.injEq, Obj.cells.injEq] at e2
  have hz : ∀ n, n ≠ 2 → n ≠ 4 → n ≠ 8 → n ≠ 12 → n ≠ 13 → dsT rs n = [] := fun n => by
   match n with
   | 2 | 4 | 8 | 12 | 13 => intros; contradiction
   | 0 | 1 | 3 | 5 | 6 | 7 | 9 | 10 | 11 => intros; rfl
   | n + 14 => intros; rfl
  have hz2 : ∀ n, InD (dsT rs n) b → n = 2 ∨ n = 4 ∨ n = 8 ∨ n = 12 ∨ n = 13 := fun n hn => by
   refine Classical.byContradiction fun hc => ?_
   rw [hz n (by omega) (by omega) (by omega) (by omega) (by omega)] at hn
   obtain ⟨t, ht, _⟩ := hn
   simp at ht
  have e3 := e2.2.1
  rcases hz2 i h1 with rfl | rfl | rfl | rfl | rfl <;> rcases hz2 j h2' with rfl | rfl | rfl | rfl | rfl <;> first | exact hne rfl | (revert e3; decide)
 ·refine ⟨(h.row r hr).1, ?_⟩
  have hr1 := (h.row r hr).1
  have ho : OwnT w 0 (.slice r.p r.n r.c) r.ts := ⟨by rw [← hr1]; exact (h.row r hr).2, fun t ht => (h.all t (List.mem_flatMap.2 ⟨r, hr, ht⟩)).1⟩
  obtain ⟨p, c, e, _, _, _, h4⟩ := ho.form
  simp only [Value.slice.injEq] at e
  rw [e.1]; exact h4
end Go.Proofs.YtkefndfgkmdphaaGreat


namespace Go.Proofs.YtkefndfgkmdphaaGreat
open Go.RowKit Tnr Tnt

def NdB (M : Nat) (L : List Nd) : Prop := ∀ d ∈ L, d.kids.length ≤ M ∧ d.set.length ≤ M
theorem ndB_mv {M : Nat} {L : List Nd} (h : NdB M L) (z : Int) : NdB M (L.map (mv z)) := fun d hd => by
 obtain ⟨y, hy, rfl⟩ := List.mem_map.1 hd
 exact ⟨by show (y.kids.map _).length ≤ _; rw [List.length_map]; exact (h y hy).1, (h y hy).2⟩
theorem ndB_joinA {M : Nat} : ∀ (Ls : List (List Nd)) (m : List Nd) (l : List Int), NdB M m → (∀ L ∈ Ls, NdB M L) → NdB M (joinA Ls m l).1 ∧ (joinA Ls m l).2.length ≤ l.length + Ls.length
 | [], m, l, hm, _ => ⟨hm, Nat.le_refl _⟩
 | k :: ks, m, l, hm, hk => by
  rw [joinA_cons]
  by_cases h0 : k.length = 0
  ·rw [if_pos h0]
   have := ndB_joinA ks m l hm fun L hL => hk L (List.mem_cons_of_mem _ hL)
   exact ⟨this.1, by have := this.2; rw [List.length_cons]; omega⟩
  ·rw [if_neg h0]
   have := ndB_joinA ks (m ++ k.map (mv (m.length : Int))) (l ++ [((m.length + k.length : Nat) : Int) - 1]) (fun d hd => by
    rcases List.mem_append.1 hd with hd | hd
    ·exact hm d hd
    ·exact ndB_mv (hk k List.mem_cons_self) _ d hd) fun L hL => hk L (List.mem_cons_of_mem _ hL)
   refine ⟨this.1, ?_⟩
   have h2 := this.2
   rw [List.length_append] at h2
   rw [List.length_cons]
   simp only [List.length_cons, List.length_nil] at h2
   omega
theorem ndB_join {M : Nat} {n : Nd} {Ls : List (List Nd)} (hn : n.set.length ≤ M) (hl : Ls.length ≤ M) (h : ∀ L ∈ Ls, NdB M L) : NdB M (joinT n Ls) := by
 intro d hd
 have := ndB_joinA (M := M) Ls [] [] (fun d hd => by simp at hd) h
 rcases List.mem_append.1 hd with hd | hd
 ·exact this.1 d hd
 ·rw [List.mem_singleton.1 hd]
  refine ⟨?_, hn⟩
  have h2 := this.2
  simp only [List.length_nil, Nat.zero_add] at h2
  show (joinA Ls [] []).2.length ≤ M
  omega
theorem ndB_cov {M : Nat} {L : List Nd} (h : NdB M L) (f k : Nat) : NdB M (covN L f k) := fun d hd => by
 obtain ⟨x, hx, rfl⟩ := cov_mem hd
 exact ⟨by show (x.kids.map _).length ≤ _; rw [List.length_map]; exact (h x hx).1, (h x hx).2⟩
theorem ndB_of {M : Nat} {L : List Nd} (h : NdB M L) (z : Int) : NdB M (ofT L z) := by
 unfold ofT
 split
 ·intro d hd; simp at hd
 ·split
  ·exact ndB_cov h _ _
  ·intro d hd; simp at hd
theorem ndB_kids {M : Nat} {L : List Nd} (h : NdB M L) : ∀ K ∈ kidsT L, NdB M K := by
 unfold kidsT
 split
 ·intro K hK; simp at hK
 ·intro K hK
  obtain ⟨k, _, rfl⟩ := List.mem_map.1 hK
  exact ndB_cov h _ _
theorem ofT_len (L : List Nd) (z : Int) : (ofT L z).length ≤ L.length := by
 unfold ofT
 split
 ·exact Nat.zero_le _
 ·split
  ·unfold covN
   rw [List.length_map, List.length_take, List.length_drop]; omega
  ·exact Nat.zero_le _
theorem sizeT_nds (ts : List TV) : sizeT ts = ((treesN ts).map List.length).sum := by
 unfold treesN sizeT
 rw [List.map_map]
 congr 2
 funext t
 exact (nds_length t.ys).symm
theorem kids_size {ts : List TV} {L : List Nd} (h : treesN ts = kidsT L) : sizeT ts ≤ L.length := by
 rw [sizeT_nds, h]
 cases ho : ordT L with
 | none => unfold kidsT; rw [ho]; exact Nat.zero_le _
 | some l => have := kids_sum ho; omega
theorem kids_many {ts : List TV} {L : List Nd} {M : Nat} (h : treesN ts = kidsT L) (hM : NdB M L) : ts.length ≤ M := by
 have e : ts.length = (kidsT L).length := by rw [← h]; unfold treesN; rw [List.length_map]
 rw [e]
 cases ho : ordT L with
 | none => unfold kidsT; rw [ho]; exact Nat.zero_le _
 | some l =>
  rw [kids_len ho]
  have hl := ordT_len ho
  rw [last_get hl.1]
  exact (hM _ (List.getElem_mem _)).1
theorem sizeT_each {ts : List TV} {t : TV} (h : t ∈ ts) : t.ys.length ≤ sizeT ts := by
 obtain ⟨a, b, rfl⟩ := List.append_of_mem h
 simp [sizeT]
 omega
theorem ndB_nds {M : Nat} {ys : List NV} (h : NdB M (nds ys)) : ∀ x ∈ ys, x.nd.kids.length ≤ M ∧ x.nd.set.length ≤ M := fun x hx => h x.nd (List.mem_map.2 ⟨x, hx, rfl⟩)
theorem nds_ndB {M : Nat} {ys : List NV} (h : ∀ x ∈ ys, x.nd.kids.length ≤ M ∧ x.nd.set.length ≤ M) : NdB M (nds ys) := fun d hd => by
 obtain ⟨y, hy, rfl⟩ := List.mem_map.1 hd
 exact h y hy
theorem ndB_few {M : Nat} {ys : List NV} (h : NdB M (nds ys)) (hM : M ≤ 1000000) : Few ys := fun x hx => by
 have := ndB_nds h x hx
 omega
theorem ndB_fewT {M : Nat} {ts : List TV} {Ls : List (List Nd)} (e : treesN ts = Ls) (h : ∀ L ∈ Ls, NdB M L) (hM : M ≤ 1000000) : FewT ts := fun t ht => ndB_few (h _ (e ▸ List.mem_map.2 ⟨t, ht, rfl⟩)) hM

def blkT (t : TV) (b : Nat) : Prop := blk t.q = some b ∨ ∃ y ∈ t.ys, blk y.ps = some b ∨ blk y.pk = some b
theorem blkT_own {w : World} {B : Nat} {t : TV} (h : OwnN w B (.slice t.q t.ys.length t.cq) t.ys) {b : Nat} (hb : blkT t b) : B ≤ b ∧ b < w.heap.size := by
 rcases hb with e | ⟨y, hy, e | e⟩
 ·exact World.ownsRow.lt h.row b (by rw [own_blk]; exact e)
 ·exact (h.blk hy b).1 e
 ·exact (h.blk hy b).2 e
theorem disT_one {t : TV} (h : DisN t.ys) : DisT [t] := by
 refine ⟨?_, List.pairwise_singleton _ _⟩
 rw [show [t].flatMap TV.ys = t.ys by simp]; exact h
theorem disT_app {a c : List TV} {C : Nat} (h : DisT a) (k : DisT c) (ha : ∀ t ∈ a, ∀ b, blkT t b → b < C) (hc : ∀ t ∈ c, ∀ b, blkT t b → C ≤ b) : DisT (a ++ c) := by
 refine ⟨?_, List.pairwise_append.2 ⟨h.2, k.2, fun s hs t ht b e1 e2 => ?_⟩⟩
 ·rw [List.flatMap_append]
  refine disN_join (C := C) h.1 k.1 (fun y hy b => ?_) (fun y hy b => ?_)
  ·obtain ⟨t, ht, hy⟩ := List.mem_flatMap.1 hy
   exact ⟨fun e => ha t ht b (.inr ⟨y, hy, .inl e⟩), fun e => ha t ht b (.inr ⟨y, hy, .inr e⟩)⟩
  ·obtain ⟨t, ht, hy⟩ := List.mem_flatMap.1 hy
   exact ⟨fun e => hc t ht b (.inr ⟨y, hy, .inl e⟩), fun e => hc t ht b (.inr ⟨y, hy, .inr e⟩)⟩
 ·have h1 := ha s hs b (.inl e1)
  have h2 := hc t ht b (.inl e2)
  omega
theorem own_box {w : World} {B g size n : Nat} {T : TypeId} {cs : Array Value} (h : Bx w g T cs) (hB : B ≤ g) (hn : n ≤ maxLen) (hs : cs.size = n * size) : w.ownsRow B T size (.slice (some ⟨g, 0, none⟩) n n) n cs.toList :=
 ⟨by simpa using hs, .inr ⟨g, n, cs, rfl, hB, h, Nat.le_refl _, hn, hs, List.take_of_length_le (by rw [Array.length_toList, hs]; exact Nat.le_refl _)⟩⟩
theorem rsIn3 {w : World} {B1 B2 B3 B4 bA : Nat} {t u v : TV} {q : Option Addr} {m cq : Nat} {ts : List TV}
  (ht : OwnN w B1 (.slice t.q t.ys.length t.cq) t.ys) (hu : OwnN w B2 (.slice u.q u.ys.length u.cq) u.ys) (hv : OwnN w B3 (.slice v.q v.ys.length v.cq) v.ys) (hk : OwnT w B4 (.slice q m cq) ts)
  (bt : ∀ t' ∈ [t, u, v] ++ ts, t'.na = none ∧ t'.nn = 0 ∧ t'.nc = 0) (hm : m = ts.length)
  (d1 : DisN t.ys) (d2 : DisN u.ys) (d3 : DisN v.ys) (d4 : DisT ts)
  (l1 : ∀ b, blkT t b → b < B2) (l2 : ∀ b, blkT u b → b < B3) (l3 : ∀ b, blkT v b → b < B4) (h23 : B2 ≤ B3) (h34 : B3 ≤ B4)
  (hA : Bx w bA 34 #[.slice t.q t.ys.length t.cq, .slice none 0 0, .slice u.q u.ys.length u.cq, .slice none 0 0, .slice v.q v.ys.length v.cq, .slice none 0 0]) (hf : ∀ b, blk q = some b → b ≠ bA)
  (few : ∀ t' ∈ [t, u, v] ++ ts, t'.ys.length ≤ 4000 ∧ ∀ x ∈ t'.ys, x.nd.kids.length ≤ 3000 ∧ x.nd.set.length ≤ 3000) (hs : sizeT ts ≤ 4000) (hn : ts.length ≤ 3000) :
  RsIn w [⟨some ⟨bA, 0, none⟩, 3, 3, [t, u, v]⟩, ⟨q, m, cq, ts⟩] := by
 have hfl : ([⟨some ⟨bA, 0, none⟩, 3, 3, [t, u, v]⟩, ⟨q, m, cq, ts⟩] : List TR).flatMap TR.ts = [t, u, v] ++ ts := by simp
 refine ⟨?_, ?_, ?_, ?_, ?_, ?_, ?_, ?_⟩
 ·rw [hfl]
  intro t' ht'
  refine ⟨?_, bt t' ht'⟩
  rcases List.mem_append.1 ht' with h | h
  ·simp only [List.mem_cons, List.not_mem_nil, or_false] at h
   rcases h with rfl | rfl | rfl
   ·exact ht.down (Nat.zero_le _)
   ·exact hu.down (Nat.zero_le _)
   ·exact hv.down (Nat.zero_le _)
  ·exact (hk.all t' h).down (Nat.zero_le _)
 ·intro r hr
  simp only [List.mem_cons, List.not_mem_nil, or_false] at hr
  rcases hr with rfl | rfl
  ·refine ⟨rfl, ?_⟩
   have h := own_box (n := 3) (size := 2) hA (Nat.zero_le _) (by decide) rfl
   have e : ∀ s ∈ [t, u, v], encT s = [.slice s.q s.ys.length s.cq, .slice none 0 0] := fun s hs => by
    obtain ⟨e1, e2, e3⟩ := bt s (List.mem_append_left _ hs)
    unfold encT; rw [e1, e2, e3]
   show w.ownsRow 0 34 2 (.slice (some ⟨bA, 0, none⟩) 3 3) 3 ([t, u, v].flatMap encT)
   rw [show [t, u, v].flatMap encT = encT t ++ (encT u ++ encT v) by simp, e t (by simp), e u (by simp), e v (by simp)]
   exact h
  ·refine ⟨hm, ?_⟩
   have h := hk.row
   rw [← hm] at h
   exact World.ownsRow.mono h (Nat.zero_le _)
 ·rw [hfl]
  refine disT_app (C := B4) (a := [t, u, v]) ?_ d4 (fun s hs b hb => ?_) (fun s hs b hb => (blkT_own (hk.all s hs) hb).1)
  ·refine disT_app (C := B2) (a := [t]) (c := [u, v]) (disT_one d1) (disT_app (C := B3) (a := [u]) (c := [v]) (disT_one d2) (disT_one d3) ?_ ?_) ?_ ?_
   ·intro s hs; rw [List.mem_singleton.1 hs]; exact l2
   ·intro s hs b hb; rw [List.mem_singleton.1 hs] at hb; exact (blkT_own hv hb).1
   ·intro s hs; rw [List.mem_singleton.1 hs]; exact l1
   ·intro s hs b hb
    simp only [List.mem_cons, List.not_mem_nil, or_false] at hs
    rcases hs with rfl | rfl
    ·exact (blkT_own hu hb).1
    ·exact Nat.le_trans h23 (blkT_own hv hb).1
  ·simp only [List.mem_cons, List.not_mem_nil, or_false] at hs
   rcases hs with rfl | rfl | rfl
   ·have := l1 b hb; omega
   ·have := l2 b hb; omega
   ·exact l3 b hb
 ·refine List.Pairwise.cons (fun r hr b e1 e2 => ?_) (List.pairwise_singleton _ _)
  rw [List.mem_singleton.1 hr] at e2
  have e3 : some bA = some b := e1
  exact hf b e2 (Option.some.inj e3).symm
 ·rw [hfl, sizeT_flat]
  have e : sizeT ([t, u, v] ++ ts) = t.ys.length + (u.ys.length + (v.ys.length + sizeT ts)) := by simp [sizeT]
  have f1 := (few t (by simp)).1
  have f2 := (few u (by simp)).1
  have f3 := (few v (by simp)).1
  omega
 ·rw [hfl, List.length_append]
  show 3 + _ ≤ _
  omega
 ·show 2 ≤ 20000; omega
 ·rw [hfl]
  intro t' ht'
  have h := few t' ht'
  exact ⟨by omega, fun x hx => by have := h.2 x hx; omega⟩
end Go.Proofs.YtkefndfgkmdphaaGreat


namespace Go.Proofs.YtkefndfgkmdphaaGreat
open Go.RowKit Tnr Tnt

theorem RQ.down {w : World} {B B' n : Nat} {ts us : List TV} {nms : Nat → List ByteArray} {v : Value} (h : RQ w B n ts nms v us) (hB : B' ≤ B) : RQ w B' n ts nms v us := by
 refine ⟨World.ownsRow.mono h.1 hB, fun i hi => ⟨fun hn => ?_, fun hn => ?_⟩⟩
 ·obtain ⟨g, cap, gx, capx, ys, e, h1, h2⟩ := (h.2 i hi).1 hn
  exact ⟨g, cap, gx, capx, ys, e, h1.down hB, h2.1, h2.2.1, h2.2.2.1, World.ownsRow.mono h2.2.2.2 hB⟩
 ·obtain ⟨a, e, h1, h2⟩ := (h.2 i hi).2 hn
  exact ⟨a, e, h1, Nat.le_trans hB h2⟩
theorem ne_size {w : World} {B n z b : Nat} {T T' : TypeId} {v : Value} {xs : List Value} {cs : Array Value} (h : w.ownsRow B T z v n xs) (hb : Bx w b T' cs) (hs : cs.size < n * z) : v.ownBlock ≠ some b := by
 intro e
 rcases h.2 with ⟨rfl, _⟩ | ⟨g, cap, cur, rfl, _, hh, hc, _, hz, _⟩
 ·simp [Value.ownBlock] at e
 ·simp only [Value.ownBlock, Option.some.injEq] at e
  subst e
  rw [show w.heap[g]? = _ from hb] at hh
  simp only [Option.some.injEq, Obj.cells.injEq] at hh
  have := Nat.mul_le_mul_right z hc
  rw [← hh.1] at hz
  omega
theorem own_st {w : World} {B n z : Nat} {T T' : TypeId} {v : Value} {xs : List Value} {b i : Nat} {u : Value} {cs : Array Value} (h : w.ownsRow B T z v n xs) (hb : Bx w b T' cs) (hT : T' ≠ T ∨ cs.size < n * z) : (w.setCell ⟨b, i, none⟩ u).ownsRow B T z v n xs :=
 World.ownsRow.kept h (show w.grownBy (w.setCell ⟨b, i, none⟩ u) (some b) from ⟨rfl, rfl, rfl, by simp, fun k _ hne => Below.heap_setCell _ _ _ k (fun e => hne (by rw [e]))⟩) (.inr (hT.elim (row_ne h hb) (ne_size h hb)))
theorem LNs.st {w : World} {B n g cap : Nat} {xs ys : List NV} (h : LNs w B n g cap xs ys) {b i : Nat} {u : Value} {T : TypeId} {cs : Array Value} (hb : Bx w b T cs) (hs : cs.size ≤ 9) (h1 : T ≠ 63) (h2 : T ≠ 3) : LNs (w.setCell ⟨b, i, none⟩ u) B n g cap xs ys := by
 refine ⟨h.1, h.2.1, h.2.2.1, own_st h.2.2.2.1 hb (.inr ?_), fun j hj => ?_⟩
 ·rw [List.length_append, marksN_length]; omega
 ·obtain ⟨h0, ⟨g, k1, k2, k3, k4⟩, g', l1, l2, l3, l4⟩ := h.2.2.2.2 j hj
  exact ⟨h0, ⟨g, k1, k2, k3, own_st k4 hb (.inl h1)⟩, g', l1, l2, l3, own_st l4 hb (.inl h2)⟩
theorem LentN.st {w : World} {B : Nat} {x y : NV} (h : LentN w B x y) {b i : Nat} {u : Value} {T : TypeId} {cs : Array Value} (hb : Bx w b T cs) (h1 : T ≠ 63) (h2 : T ≠ 3) : LentN (w.setCell ⟨b, i, none⟩ u) B x y := by
 obtain ⟨h0, ⟨g, k1, k2, k3, k4⟩, g', l1, l2, l3, l4⟩ := h
 exact ⟨h0, ⟨g, k1, k2, k3, own_st k4 hb (.inl h1)⟩, g', l1, l2, l3, own_st l4 hb (.inl h2)⟩
structure JI (w : World) (B n g cap : Nat) (ts us : List TV) (nms : Nat → List ByteArray) (xn yn : NV) : Prop where
 len : us.length = n + 12
 le : n + 12 ≤ cap
 max : cap ≤ 9223372036854775807
 rq : RQ w B n ts nms (.slice (some ⟨g, 0, none⟩) (n + 12) cap) us
 ln : LentN w B xn yn
theorem JI.st {w : World} {B n g cap : Nat} {ts us : List TV} {nms : Nat → List ByteArray} {xn yn : NV} (h : JI w B n g cap ts us nms xn yn) {b : Nat} {T : TypeId} {cs : Array Value} (hb : Bx w b T cs) (hs : cs.size ≤ 9) (h1 : T ≠ 63) (h2 : T ≠ 3) (h3 : T ≠ 9) (i : Nat) (u : Value) : JI (w.setCell ⟨b, i, none⟩ u) B n g cap ts us nms xn yn := by
 refine ⟨h.len, h.le, h.max, ⟨own_st h.rq.1 hb (.inr (by rw [h.len]; omega)), fun j hj => ⟨fun hn => ?_, fun hn => ?_⟩⟩, h.ln.st hb h1 h2⟩
 ·obtain ⟨g, cap, gx, capx, ys, e, k1, k2⟩ := (h.rq.2 j hj).1 hn
  exact ⟨g, cap, gx, capx, ys, e, k1.st hb hs h1 h2, k2.1, k2.2.1, k2.2.2.1, own_st k2.2.2.2 hb (.inl h3)⟩
 ·obtain ⟨a, e, k1, k2⟩ := (h.rq.2 j hj).2 hn
  exact ⟨a, e, k1.other (a := ⟨b, i, none⟩) (fun e2 => by
   have e3 : a = b := e2
   rw [e3] at k1
   unfold Bx at k1
   rw [show w.heap[b]? = _ from hb] at k1
   simp only [Option.some.injEq, Obj.cells.injEq] at k1
   exact h3 k1.2.1) u, k2⟩
theorem JI.put9 {w : World} {B n g cap : Nat} {ts us : List TV} {nms : Nat → List ByteArray} {xn yn : NV} (h : JI w B n g cap ts us nms xn yn) {b : Nat} {z0 z1 z2 z3 z4 z5 z6 z7 z8 : Value} (hb : Bx w b 28 #[z0, z1, z2, z3, z4, z5, z6, z7, z8]) (v0 v1 v2 v3 v4 v5 v6 v7 v8 : Value) : JI (putN9 w b v0 v1 v2 v3 v4 v5 v6 v7 v8) B n g cap ts us nms xn yn := by
 have d1 : 28 ≠ 63 := by decide
 have d2 : 28 ≠ 3 := by decide
 have d3 : 28 ≠ 9 := by decide
 have s9 : ∀ a0 a1 a2 a3 a4 a5 a6 a7 a8 : Value, (#[a0, a1, a2, a3, a4, a5, a6, a7, a8] : Array Value).size ≤ 9 := fun _ _ _ _ _ _ _ _ _ => Nat.le_refl _
 have h0 : Bx (w.setCell ⟨b, 0, none⟩ v0) b 28 #[v0, z1, z2, z3, z4, z5, z6, z7, z8] := hb.set 0 v0
 have h1 : Bx ((w.setCell ⟨b, 0, none⟩ v0).setCell ⟨b, 1, none⟩ v1) b 28 #[v0, v1, z2, z3, z4, z5, z6, z7, z8] := h0.set 1 v1
 have h2 : Bx (((w.setCell ⟨b, 0, none⟩ v0).setCell ⟨b, 1, none⟩ v1).setCell ⟨b, 2, none⟩ v2) b 28 #[v0, v1, v2, z3, z4, z5, z6, z7, z8] := h1.set 2 v2
 have h3 : Bx ((((w.setCell ⟨b, 0, none⟩ v0).setCell ⟨b, 1, none⟩ v1).setCell ⟨b, 2, none⟩ v2).setCell ⟨b, 3, none⟩ v3) b 28 #[v0, v1, v2, v3, z4, z5, z6, z7, z8] := h2.set 3 v3
 have h4 : Bx (((((w.setCell ⟨b, 0, none⟩ v0).setCell ⟨b, 1, none⟩ v1).setCell ⟨b, 2, none⟩ v2).setCell ⟨b, 3, none⟩ v3).setCell ⟨b, 4, none⟩ v4) b 28 #[v0, v1, v2, v3, v4, z5, z6, z7, z8] := h3.set 4 v4
 have h5 : Bx ((((((w.setCell ⟨b, 0, none⟩ v0).setCell ⟨b, 1, none⟩ v1).setCell ⟨b, 2, none⟩ v2).setCell ⟨b, 3, none⟩ v3).setCell ⟨b, 4, none⟩ v4).setCell ⟨b, 5, none⟩ v5) b 28 #[v0, v1, v2, v3, v4, v5, z6, z7, z8] := h4.set 5 v5
 have h6 : Bx (((((((w.setCell ⟨b, 0, none⟩ v0).setCell ⟨b, 1, none⟩ v1).setCell ⟨b, 2, none⟩ v2).setCell ⟨b, 3, none⟩ v3).setCell ⟨b, 4, none⟩ v4).setCell ⟨b, 5, none⟩ v5).setCell ⟨b, 6, none⟩ v6) b 28 #[v0, v1, v2, v3, v4, v5, v6, z7, z8] := h5.set 6 v6
 have h7 : Bx ((((((((w.setCell ⟨b, 0, none⟩ v0).setCell ⟨b, 1, none⟩ v1).setCell ⟨b, 2, none⟩ v2).setCell ⟨b, 3, none⟩ v3).setCell ⟨b, 4, none⟩ v4).setCell ⟨b, 5, none⟩ v5).setCell ⟨b, 6, none⟩ v6).setCell ⟨b, 7, none⟩ v7) b 28 #[v0, v1, v2, v3, v4, v5, v6, v7, z8] := h6.set 7 v7
 have j0 := h.st hb (s9 _ _ _ _ _ _ _ _ _) d1 d2 d3 0 v0
 have j1 := j0.st h0 (s9 _ _ _ _ _ _ _ _ _) d1 d2 d3 1 v1
 have j2 := j1.st h1 (s9 _ _ _ _ _ _ _ _ _) d1 d2 d3 2 v2
 have j3 := j2.st h2 (s9 _ _ _ _ _ _ _ _ _) d1 d2 d3 3 v3
 have j4 := j3.st h3 (s9 _ _ _ _ _ _ _ _ _) d1 d2 d3 4 v4
 have j5 := j4.st h4 (s9 _ _ _ _ _ _ _ _ _) d1 d2 d3 5 v5
 have j6 := j5.st h5 (s9 _ _ _ _ _ _ _ _ _) d1 d2 d3 6 v6
 have j7 := j6.st h6 (s9 _ _ _ _ _ _ _ _ _) d1 d2 d3 7 v7
 exact j7.st h7 (s9 _ _ _ _ _ _ _ _ _) d1 d2 d3 8 v8
theorem JI.slT {w : World} {B n g cap : Nat} {ts us : List TV} {nms : Nat → List ByteArray} {xn yn : NV} (h : JI w B n g cap ts us nms xn yn) (hn : n = ts.length) : SlT w (some ⟨g, 0, none⟩) (us.take n) ∧ treesN (us.take n) = treesN ts ∧ (us.take n).length = n := by
 have hl : (us.take n).length = n := by rw [List.length_take, h.len]; omega
 have hg : ∀ i, i < n → gt (us.take n) i = gt us i := fun i hi => by
  rw [gt_get (by omega), gt_get (by rw [h.len]; omega), List.getElem_take]
 refine ⟨⟨fun t ht => ?_, .inr ⟨g, 0, rfl, fun i hi => ?_⟩⟩, ?_, hl⟩
 ·obtain ⟨i, hi, rfl⟩ := List.mem_iff_getElem.1 ht
  have hi2 : i < n := by omega
  obtain ⟨g1, c1, gx, cx, ys, e, k1, k2⟩ := (h.rq.2 i (by rw [h.len]; omega)).1 hi2
  rw [← gt_get hi, hg i hi2, e]
  refine ⟨k1.slN rfl, fun e => (by cases e), ?_, ?_⟩
  ·have e1 := k1.1
   have e2 := k1.2.1
   show ys.length ≤ c1
   omega
  ·exact k1.2.2.1
 ·have hi2 : i < n := by omega
  rw [hg i hi2, Nat.zero_add]
  exact rowT_cells h.rq.1 h.len i (by omega)
 ·refine List.ext_getElem (by unfold treesN; rw [List.length_map, List.length_map, hl, hn]) fun i h1 h2 => ?_
  unfold treesN at h1 h2 ⊢
  rw [List.length_map] at h1 h2
  have hi2 : i < n := by omega
  obtain ⟨g1, c1, gx, cx, ys, e, k1, k2⟩ := (h.rq.2 i (by rw [h.len]; omega)).1 hi2
  rw [List.getElem_map, List.getElem_map, ← gt_get (by omega), ← gt_get (by omega), hg i hi2, e]
  exact k1.nds rfl
def Kc.lts (B n : Nat) (ts : List TV) (nms : Nat → List ByteArray) : Kc := ⟨fun v w => ∃ (g cap : Nat) (us : List TV), v = .slice (some ⟨g, 0, none⟩) n cap ∧ us.length = n + 12 ∧ n + 12 ≤ cap ∧ cap ≤ 9223372036854775807 ∧ RQ w B n ts nms (.slice (some ⟨g, 0, none⟩) (n + 12) cap) us, fun ⟨g, cap, us, h1, h2, h3, h4, h5⟩ hb => ⟨g, cap, us, h1, h2, h3, h4, h5.below hb⟩⟩
def Kc.lentN (B : Nat) (x : NV) : Kc := ⟨fun v w => ∃ y : NV, v = .agg (encN y).toArray ∧ LentN w B x y, fun ⟨y, h1, h2⟩ hb => ⟨y, h1, h2.below hb⟩⟩
def Kc.kidsL (LK : List (List Nd)) : Kc := ⟨fun v w => ∃ (q : Option Addr) (m cq : Nat) (ts : List TV), v = .slice q m cq ∧ m = ts.length ∧ SlT w q ts ∧ treesN ts = LK ∧ Bare ts, fun ⟨q, m, cq, ts, h1, h2, h3, h4, h5⟩ hb => ⟨q, m, cq, ts, h1, h2, h3.below hb, h4, h5⟩⟩
theorem TNm.below {w w' : World} {t : TV} {nm : List ByteArray} (h : TNm w t nm) (hb : Below w.heap.size w w') : TNm w' t nm := ⟨h.tree.below hb, h.few, h.len, h.max, h.sl.below hb, h.fits⟩
theorem blkT_ne {w : World} {B b : Nat} {t : TV} {cs : Array Value} (h : OwnN w B (.slice t.q t.ys.length t.cq) t.ys) (hb : Bx w b 34 cs) : ¬ blkT t b := by
 rintro (e | ⟨y, hy, e | e⟩)
 ·exact row_ne h.row hb (by decide) (by rw [own_blk]; exact e)
 ·exact row_ne (h.set y hy) hb (by decide) (by rw [own_blk]; exact e)
 ·exact row_ne (h.kids y hy) hb (by decide) (by rw [own_blk]; exact e)
theorem rsIn_blk {w : World} {rs : List TR} (h : RsIn w rs) {j b : Nat} (hb : InD (dsT rs j) b) : (∃ r ∈ rs, blk r.p = some b) ∨ ∃ t ∈ rs.flatMap TR.ts, blkT t b := by
 match j, hb with
 | 2, hb =>
  obtain ⟨x, hx, e⟩ := inD_map (f := dK) hb
  obtain ⟨t, ht, hx⟩ := List.mem_flatMap.1 hx
  exact .inr ⟨t, ht, .inr ⟨x, hx, .inr e⟩⟩
 | 8, hb =>
  obtain ⟨x, hx, e⟩ := inD_map (f := dS) hb
  obtain ⟨t, ht, hx⟩ := List.mem_flatMap.1 hx
  exact .inr ⟨t, ht, .inr ⟨x, hx, .inl e⟩⟩
 | 12, hb => obtain ⟨x, hx, e⟩ := inD_map (f := dQ) hb; exact .inr ⟨x, hx, .inl e⟩
 | 13, hb => obtain ⟨x, hx, e⟩ := inD_map (f := dR) hb; exact .inl ⟨x, hx, e⟩
 | 4, hb =>
  obtain ⟨x, hx, e⟩ := inD_map (f := dN) hb
  simp only [dN, (h.all x hx).2.1, blk] at e
  cases e
 | 0, hb | 1, hb | 3, hb | 5, hb | 6, hb | 7, hb | 9, hb | 10, hb | 11, hb => obtain ⟨t, ht, _⟩ := hb; simp [dsT] at ht
 | j + 14, hb => obtain ⟨t, ht, _⟩ := hb; simp [dsT] at ht
end Go.Proofs.YtkefndfgkmdphaaGreat

