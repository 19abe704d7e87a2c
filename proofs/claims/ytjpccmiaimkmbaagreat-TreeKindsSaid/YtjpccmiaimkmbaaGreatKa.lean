/- TreeKinds: trees at hand, weakly told; what the document joins of them; a node that is changed. -/
import Derived.Test.YtjpccmiaimkmbaaGreatJs
import Derived.Test.YtjpccmiaimkmbaaGreatJv
import Derived.Test.YtjpccmiaimkmbaaGreatMq
import Derived.Test.YtjpccmiaimkmbaaGreatMw
import Derived.Test.YtjpccmiaimkmbaaGreatKr

namespace Go.Proofs.YtjpccmiaimkmbaaGreat
open Go.RowKit Tnr Tnt

theorem joinA_few : ∀ (Ls : List (List Nd)) (m : List Nd) (l : List Int), (∀ d ∈ m, FwN d) → (∀ L ∈ Ls, ∀ d ∈ L, FwN d) → (∀ d ∈ (joinA Ls m l).1, FwN d) ∧ (joinA Ls m l).2.length ≤ l.length + Ls.length
  | [], m, l, hm, _ => ⟨hm, Nat.le_refl _⟩
  | k :: ks, m, l, hm, hk => by
    rw [joinA_cons]
    by_cases h0 : k.length = 0
    · rw [if_pos h0]
      have := joinA_few ks m l hm fun L hL => hk L (List.mem_cons_of_mem _ hL)
      exact ⟨this.1, by have := this.2; rw [List.length_cons]; omega⟩
    · rw [if_neg h0]
      have := joinA_few ks (m ++ k.map (mv (m.length : Int))) (l ++ [((m.length + k.length : Nat) : Int) - 1]) (fun d hd => by
        rcases List.mem_append.1 hd with hd | hd
        · exact hm d hd
        · obtain ⟨y, hy, rfl⟩ := List.mem_map.1 hd
          obtain ⟨h1, h2, h3, h4⟩ := hk k List.mem_cons_self y hy
          exact ⟨by show (y.kids.map _).length ≤ _; rw [List.length_map]; exact h1, h2, h3, h4⟩) fun L hL => hk L (List.mem_cons_of_mem _ hL)
      refine ⟨this.1, ?_⟩
      have h2 := this.2
      rw [List.length_append] at h2
      rw [List.length_cons]
      simp only [List.length_cons, List.length_nil] at h2
      omega
theorem joinT_few {n : Nd} {Ls : List (List Nd)} (hn : FwN n) (hl : Ls.length ≤ 5000) (h : ∀ L ∈ Ls, ∀ d ∈ L, FwN d) : ∀ d ∈ joinT n Ls, FwN d := by
  intro d hd
  have := joinA_few Ls [] [] (fun d hd => by simp at hd) h
  rcases List.mem_append.1 hd with hd | hd
  · exact this.1 d hd
  · rw [List.mem_singleton.1 hd]
    refine ⟨?_, hn.2.1, hn.2.2.1, hn.2.2.2⟩
    have h2 := this.2
    simp only [List.length_nil, Nat.zero_add] at h2
    show (joinA Ls [] []).2.length ≤ 5000
    omega

theorem TW.th {w : World} {B : Nat} {q : Option Addr} {m cq : Nat} {ys : List NV} (h : TW w B q m cq ys) : TH w q m cq ys (nds ys) := th_own h.len h.own rfl
theorem few_of {ys : List NV} {L : List Nd} (h : nds ys = L) (hL : ∀ d ∈ L, FwN d) : ∀ x ∈ ys, FwN x.nd := fun x hx => hL x.nd (h ▸ List.mem_map.2 ⟨x, hx, rfl⟩)
def WPost (n B : Nat) (w : World) (e : Ending) (w' : World) : Prop := ∃ q m cq ys, e = .returned (.agg #[.slice q m cq, .slice none 0 0]) ∧ TW w' B q m cq ys ∧ m = n ∧ Below w.heap.size w w'

theorem joinW (x : NV) (p : Option Addr) (m c : Nat) (ts : List TV) (B : Nat) (w : World) (hx : NodeIn w x) (hf : FwN x.nd) (hm : m = ts.length) (hp : SlT w p ts) (ht : ∀ t ∈ ts, ∀ y ∈ t.ys, FwN y.nd) (hmm : m ≤ 5000) (hsz : sizeT ts + 1 ≤ 5000) (hB : B ≤ w.heap.size) :
    Calls Tryz.prog 10 #[.agg (encN x).toArray, .slice p m c] w (WPost (sizeT ts + 1) B w) := by
  refine (rjoin_any x p m c ts w hx (by have := hf.2.1; omega) (by have := hf.1; omega) hm hp (fun t h y hy => by
    have := ht t h y hy
    exact ⟨by have := this.1; omega, by have := this.2.1; omega⟩) (by omega) (by omega)).mono ?_
  rintro e w' ⟨q, m', cq, ys, hm', rfl, ho, hy, hb⟩
  have hl : m' = sizeT ts + 1 := by
    rw [hm', ← nds_length, hy, joinT_len]
    unfold treesN sizeT
    rw [List.map_map]
    congr 3
    funext t
    exact nds_length t.ys
  refine ⟨q, m', cq, ys, rfl, ⟨hm', by omega, ho.down hB, few_of hy (joinT_few hf ?_ ?_)⟩, hl, hb⟩
  · unfold treesN; rw [List.length_map]; omega
  · intro L hL d hd
    obtain ⟨t, h, rfl⟩ := List.mem_map.1 hL
    obtain ⟨y, hy, rfl⟩ := List.mem_map.1 hd
    exact ht t h y hy
theorem joinW0 (x : NV) (B : Nat) (w : World) (hx : NodeIn w x) (hf : FwN x.nd) (hB : B ≤ w.heap.size) :
    Calls Tryz.prog 10 #[.agg (encN x).toArray, .slice none 0 0] w (WPost 1 B w) :=
  joinW x none 0 0 [] B w hx hf rfl (slT_nil w) (fun _ h => by simp at h) (by omega) (by simp [sizeT]) hB
theorem joinW1 (x : NV) (b c : Nat) (q : Option Addr) (m cq : Nat) (ys : List NV) (B : Nat) (w : World) {T : TypeId} (hx : NodeIn w x) (hf : FwN x.nd) (h : TW w B q m cq ys) (hb : Bx w b T #[.slice q m cq, .slice none 0 0]) (hl : m ≤ 4000) (hB : B ≤ w.heap.size) :
    Calls Tryz.prog 10 #[.agg (encN x).toArray, .slice (some ⟨b, 0, none⟩) 1 c] w (WPost (m + 1) B w) := by
  have e : sizeT [tv q cq ys] = m := by have := h.len; simp [sizeT, tv]; omega
  have := joinW x (some ⟨b, 0, none⟩) 1 c [tv q cq ys] B w hx hf rfl (slT_one h.th hb) (fun t ht y hy => by rw [List.mem_singleton.1 ht] at hy; exact h.few y hy) (by omega) (by rw [e]; omega) hB
  rw [e] at this
  exact this
theorem joinW2 (x : NV) (b c : Nat) (q q2 : Option Addr) (m cq m2 cq2 : Nat) (ys ys2 : List NV) (B : Nat) (w : World) {T : TypeId} (hx : NodeIn w x) (hf : FwN x.nd) (h : TW w B q m cq ys) (h2 : TW w B q2 m2 cq2 ys2) (hb : Bx w b T #[.slice q m cq, .slice none 0 0, .slice q2 m2 cq2, .slice none 0 0]) (hl : m + m2 ≤ 4000) (hB : B ≤ w.heap.size) :
    Calls Tryz.prog 10 #[.agg (encN x).toArray, .slice (some ⟨b, 0, none⟩) 2 c] w (WPost (m + m2 + 1) B w) := by
  have e : sizeT [tv q cq ys, tv q2 cq2 ys2] = m + m2 := by have := h.len; have := h2.len; simp [sizeT, tv]; omega
  have := joinW x (some ⟨b, 0, none⟩) 2 c [tv q cq ys, tv q2 cq2 ys2] B w hx hf rfl (slT_two h.th h2.th hb) (fun t ht y hy => by
    rcases List.mem_cons.1 ht with rfl | ht
    · exact h.few y hy
    · rw [List.mem_singleton.1 ht] at hy; exact h2.few y hy) (by omega) (by rw [e]; omega) hB
  rw [e] at this
  exact this
theorem slX_nil (w : World) (p : Option Addr) : SlX w p [] := .inl rfl
theorem slX_box {w : World} {b : Nat} {T : TypeId} {l : List ByteArray} (h : Bx w b T (l.map Value.string).toArray) (k : Nat) : SlX w (some ⟨b, 0, none⟩) (l.take k) := by
  right
  refine ⟨b, 0, rfl, fun i hi => h.cell ?_⟩
  rw [List.length_take] at hi
  have e : gb (l.take k) i = l[i]'(by omega) := by
    rw [gb_get (by rw [List.length_take]; omega), List.getElem_take]
  rw [e, Nat.zero_add]
  simp
def regroup (ys : List NV) (i : Nat) (z : Int) : List NV := ys.set i { gn ys i with nd := { (gn ys i).nd with group := z } }
theorem encN_set : ∀ (ys : List NV) (i : Nat) (z : Int), i < ys.length → (regroup ys i z).flatMap encN = (ys.flatMap encN).set (i * 9 + 3) (.int .i64 z)
  | [], i, z, h => by simp at h
  | y :: ys, 0, z, _ => by
    show encN _ ++ ys.flatMap encN = (encN y ++ ys.flatMap encN).set 3 _
    rw [List.set_append_left _ _ (by simp [encN])]
    rfl
  | y :: ys, i + 1, z, h => by
    have ih := encN_set ys i z (by simpa using h)
    show encN y ++ (regroup ys i z).flatMap encN = (encN y ++ ys.flatMap encN).set ((i + 1) * 9 + 3) _
    have e : (encN y).length = 9 := rfl
    rw [ih, List.set_append_right _ _ (by omega), e, show (i + 1) * 9 + 3 - 9 = i * 9 + 3 by omega]
theorem TW.regroup {w : World} {B g m cq : Nat} {ys : List NV} (h : TW w B (some ⟨g, 0, none⟩) m cq ys) (i : Nat) (hi : i < m) (z : Int) : TW (w.setCell ⟨g, i * 9 + 3, none⟩ (.int .i64 z)) B (some ⟨g, 0, none⟩) m cq (regroup ys i z) := by
  have hil : i < ys.length := by rw [← h.len]; exact hi
  have hlen : (Go.Proofs.YtjpccmiaimkmbaaGreat.regroup ys i z).length = ys.length := by unfold Go.Proofs.YtjpccmiaimkmbaaGreat.regroup; rw [List.length_set]
  have hrow := h.own.row
  rw [← h.len] at hrow
  have hst := (World.ownsRow.stored hrow (i * 9 + 3) (.int .i64 z)).1
  have hm : ∀ x ∈ Go.Proofs.YtjpccmiaimkmbaaGreat.regroup ys i z, ∃ y ∈ ys, x.ps = y.ps ∧ x.cs = y.cs ∧ x.pk = y.pk ∧ x.ck = y.ck ∧ x.nd.set = y.nd.set ∧ x.nd.kids = y.nd.kids ∧ x.nd.kind = y.nd.kind := by
    intro x hx
    unfold Go.Proofs.YtjpccmiaimkmbaaGreat.regroup at hx
    rcases List.mem_or_eq_of_mem_set hx with hx | rfl
    · exact ⟨x, hx, rfl, rfl, rfl, rfl, rfl, rfl, rfl⟩
    · exact ⟨gn ys i, gn_mem hil, rfl, rfl, rfl, rfl, rfl, rfl, rfl⟩
  obtain ⟨cs0, hg0⟩ : ∃ cs, w.heap[g]? = some (.cells cs 28 (0, 0)) := by
    rcases hrow.2 with ⟨e, _⟩ | ⟨g', cap, cur, e, _, hh, _⟩
    · cases e
    · simp only [Value.slice.injEq, Option.some.injEq, Addr.mk.injEq] at e
      obtain ⟨⟨rfl, _⟩, _⟩ := e
      exact ⟨_, hh⟩
  have hkeep : ∀ {n s : Nat} {T : TypeId} {v : Value} {xs : List Value}, w.ownsRow B T s v n xs → v.ownBlock ≠ some g → (w.setCell ⟨g, i * 9 + 3, none⟩ (.int .i64 z)).ownsRow B T s v n xs := fun h hne =>
    World.ownsRow.kept h (show w.grownBy (w.setCell ⟨g, i * 9 + 3, none⟩ (.int .i64 z)) (some g) from ⟨rfl, rfl, rfl, by simp, fun k _ hne => Below.heap_setCell _ _ _ k (fun e => hne (by rw [e]))⟩) (.inr hne)
  refine ⟨by rw [hlen]; exact h.len, h.le, ⟨?_, fun x hx => ?_, fun x hx => ?_⟩, fun x hx => ?_⟩
  · rw [hlen, encN_set ys i z hil, ← h.len]; exact hst
  · obtain ⟨y, hy, e1, e2, _, _, e5, _⟩ := hm x hx
    rw [e1, e2, e5]
    exact hkeep (h.own.set y hy) (row_ne (h.own.set y hy) hg0 (by decide))
  · obtain ⟨y, hy, _, _, e3, e4, _, e6, _⟩ := hm x hx
    rw [e3, e4, e6]
    exact hkeep (h.own.kids y hy) (row_ne (h.own.kids y hy) hg0 (by decide))
  · obtain ⟨y, hy, _, _, _, _, e5, e6, e7⟩ := hm x hx
    obtain ⟨h1, h2, h3⟩ := h.few y hy
    unfold FwN
    rw [e5, e6, e7]
    exact ⟨h1, h2, h3⟩
end Go.Proofs.YtjpccmiaimkmbaaGreat
