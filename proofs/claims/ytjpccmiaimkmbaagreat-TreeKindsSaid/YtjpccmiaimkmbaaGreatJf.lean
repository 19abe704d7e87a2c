/- Plain: groups in the order in which they begin, told by going down the kids; the same as by sorting places. -/
/- The document's trees: the walk of begun. -/
import Derived.Test.YtjpccmiaimkmbaaGreatMw
import Derived.Test.YtjpccmiaimkmbaaGreatJc
import Derived.Test.YtjpccmiaimkmbaaGreatFl

namespace Go.Proofs.YtjpccmiaimkmbaaGreat
open Go.RowKit Tnr Tnt

def begP (L : List Nd) : Nat → Nat → List Nat
  | 0, _ => []
  | f + 1, k => (if (nN L k).kind = 5 then [k] else []) ++ (nN L k).kids.flatMap fun j => begP L f j.toNat
def preP (L : List Nd) (k : Nat) : List Nat := begP L (k + 1) k
def begB (L : List Nd) (k : Nat) : List Int := (preP L k).map fun p => (nN L p).group
theorem nN_at {L : List Nd} {k : Nat} (h : k < L.length) : nN L k = L[k] := by
  unfold nN; rw [List.getD_eq_getElem?_getD, List.getElem?_eq_getElem h]; rfl
theorem flatMap_congr6 {α β : Type} {f g : α → List β} : ∀ {l : List α}, (∀ x ∈ l, f x = g x) → l.flatMap f = l.flatMap g
  | [], _ => rfl
  | a :: l, h => by rw [List.flatMap_cons, List.flatMap_cons, h a (by simp), flatMap_congr6 fun x hx => h x (List.mem_cons_of_mem _ hx)]
theorem begP_fuel {L : List Nd} {l : List (Nat × Nat)} (h : OrdOk L l) : ∀ k, k < L.length → ∀ f, k < f → begP L f k = preP L k := by
  intro k
  induction k using Nat.strongRecOn with
  | _ k ih =>
    intro hk f hf
    obtain ⟨g, rfl⟩ : ∃ g, f = g + 1 := ⟨f - 1, by omega⟩
    have hkids : ∀ j ∈ (nN L k).kids, 0 ≤ j ∧ j < (k : Int) := by rw [nN_at hk]; exact ordOk_kid h hk
    unfold preP
    show (if (nN L k).kind = 5 then [k] else []) ++ _ = (if (nN L k).kind = 5 then [k] else []) ++ _
    congr 1
    refine flatMap_congr6 fun j hj => ?_
    have := hkids j hj
    rw [ih j.toNat (by omega) (by omega) g (by omega), ih j.toNat (by omega) (by omega) k (by omega)]
theorem preP_eq {L : List Nd} {l : List (Nat × Nat)} (h : OrdOk L l) {k : Nat} (hk : k < L.length) : preP L k = (if (nN L k).kind = 5 then [k] else []) ++ (nN L k).kids.flatMap fun j => preP L j.toNat := by
  have hkids : ∀ j ∈ (nN L k).kids, 0 ≤ j ∧ j < (k : Int) := by rw [nN_at hk]; exact ordOk_kid h hk
  show (if (nN L k).kind = 5 then [k] else []) ++ _ = (if (nN L k).kind = 5 then [k] else []) ++ _
  congr 1
  refine flatMap_congr6 fun j hj => ?_
  have := hkids j hj
  exact begP_fuel h j.toNat (by omega) k (by omega)
theorem begB_eq {L : List Nd} {l : List (Nat × Nat)} (h : OrdOk L l) {k : Nat} (hk : k < L.length) : begB L k = (if (nN L k).kind = 5 then [(nN L k).group] else []) ++ (nN L k).kids.flatMap fun j => begB L j.toNat := by
  unfold begB
  rw [preP_eq h hk, List.map_append, List.map_flatMap]
  congr 1
  split <;> rfl
def ltP (F : Nat → Nat × Nat) (a b : Nat) : Prop := (F a).1 < (F b).1 ∨ ((F a).1 = (F b).1 ∧ b < a)
def PreOk (L : List Nd) (F : Nat → Nat × Nat) (k : Nat) : Prop := (∀ x, x ∈ preP L k ↔ (F k).1 ≤ x ∧ x ≤ k ∧ (nN L x).kind = 5) ∧ (preP L k).Pairwise (ltP F)
theorem rk_pre {L : List Nd} {F : Nat → Nat × Nat} : ∀ {ks : List Int} {c d a e : Nat}, (∀ j, j < c → (F j).1 ≤ j) → (∀ j, j < c → Lam F j) → (∀ j, j < c → PreOk L F j) → rk F ks c d = some (a, e) →
    (∀ x, x ∈ ks.reverse.flatMap (fun j => preP L j.toNat) ↔ a ≤ x ∧ x < c ∧ (nN L x).kind = 5) ∧ (ks.reverse.flatMap fun j => preP L j.toNat).Pairwise (ltP F)
  | [], c, d, a, e, _, _, _, h => by
    simp only [rk, Option.some.injEq, Prod.mk.injEq] at h
    refine ⟨fun x => ?_, by simp⟩
    simp only [List.reverse_nil, List.flatMap_nil, List.not_mem_nil, false_iff]
    omega
  | k :: ks, c, d, a, e, hl, hL, hS, h => by
    rw [rk_cons] at h
    by_cases hc : c = 0 ∨ k ≠ (c : Int) - 1
    · rw [if_pos hc] at h; cases h
    · rw [if_neg hc] at h
      have h3 := hl (c - 1) (by omega)
      have hlow := rk_low (fun j hj => hl j (by omega)) h
      obtain ⟨ih1, ih2⟩ := rk_pre (ks := ks) (fun j hj => hl j (by omega)) (fun j hj => hL j (by omega)) (fun j hj => hS j (by omega)) h
      obtain ⟨s1, s2⟩ := hS (c - 1) (by omega)
      have hlam := hL (c - 1) (by omega)
      rw [List.reverse_cons, List.flatMap_append, List.flatMap_cons, List.flatMap_nil, List.append_nil, show k.toNat = c - 1 by omega]
      refine ⟨fun x => ?_, ?_⟩
      · rw [List.mem_append, ih1, s1]
        constructor
        · rintro (⟨g1, g2, g3⟩ | ⟨g1, g2, g3⟩)
          · exact ⟨g1, by omega, g3⟩
          · exact ⟨by omega, by omega, g3⟩
        · rintro ⟨g1, g2, g3⟩
          by_cases hx : x < (F (c - 1)).1
          · exact .inl ⟨g1, hx, g3⟩
          · exact .inr ⟨by omega, by omega, g3⟩
      · rw [List.pairwise_append]
        refine ⟨ih2, s2, fun x hx y hy => ?_⟩
        have hx2 := (ih1 x).1 hx
        have hy2 := (s1 y).1 hy
        have hyl := (hlam y hy2.1 hy2.2.1).1
        have hxl := hl x (by omega)
        exact .inl (by omega)
theorem pre_ok {L : List Nd} {l : List (Nat × Nat)} (h : OrdOk L l) : ∀ k, k < L.length → PreOk L (gf l) k := by
  intro k
  induction k using Nat.strongRecOn with
  | _ k ih =>
    intro hk
    obtain ⟨d, h3, _⟩ := h.2.2 k hk
    have hlow := (h.2.1 k hk).1
    obtain ⟨g1, g2⟩ := rk_pre (L := L) (fun j hj => (h.2.1 j (by omega)).1) (fun j hj => lam_ok h j (by omega)) (fun j hj => ih j hj (by omega)) h3
    rw [List.reverse_reverse, ← nN_at hk] at g1 g2
    have hlam := lam_ok h k hk
    unfold PreOk
    rw [preP_eq h hk]
    by_cases h5 : (nN L k).kind = 5
    · rw [if_pos h5]
      refine ⟨fun x => ?_, ?_⟩
      · rw [List.mem_append, g1, List.mem_singleton]
        constructor
        · rintro (rfl | ⟨e1, e2, e3⟩)
          · exact ⟨hlow, Nat.le_refl _, h5⟩
          · exact ⟨e1, by omega, e3⟩
        · rintro ⟨e1, e2, e3⟩
          by_cases hx : x = k
          · exact .inl hx
          · exact .inr ⟨e1, by omega, e3⟩
      · rw [List.pairwise_append]
        refine ⟨List.pairwise_singleton _ _, g2, fun x hx y hy => ?_⟩
        rw [List.mem_singleton] at hx
        subst hx
        have hy2 := (g1 y).1 hy
        have := (hlam y hy2.1 (by omega)).1
        unfold ltP
        omega
    · rw [if_neg h5, List.nil_append]
      refine ⟨fun x => ?_, g2⟩
      rw [g1]
      constructor
      · rintro ⟨e1, e2, e3⟩; exact ⟨e1, by omega, e3⟩
      · rintro ⟨e1, e2, e3⟩
        refine ⟨e1, ?_, e3⟩
        by_cases hx : x = k
        · subst hx; exact absurd e3 h5
        · omega
theorem sorted_eq {α : Type} {lt : α → α → Prop} (irr : ∀ a, ¬ lt a a) (tr : ∀ a b c, lt a b → lt b c → lt a c) : ∀ {l m : List α}, l.Pairwise lt → m.Pairwise lt → (∀ x, x ∈ l ↔ x ∈ m) → l = m
  | [], [], _, _, _ => rfl
  | [], b :: m, _, _, h => absurd ((h b).2 (by simp)) (by simp)
  | a :: l, [], _, _, h => absurd ((h a).1 (by simp)) (by simp)
  | a :: l, b :: m, hl, hm, h => by
    rw [List.pairwise_cons] at hl hm
    have e : a = b := by
      rcases List.mem_cons.1 ((h a).1 (by simp)) with h1 | h1
      · exact h1
      · rcases List.mem_cons.1 ((h b).2 (by simp)) with h2 | h2
        · exact h2.symm
        · exact absurd (tr _ _ _ (hl.1 b h2) (hm.1 a h1)) (irr a)
    subst e
    rw [sorted_eq irr tr hl.2 hm.2 fun x => ?_]
    constructor
    · intro hx
      rcases List.mem_cons.1 ((h x).1 (List.mem_cons_of_mem _ hx)) with rfl | h1
      · exact absurd (hl.1 x hx) (irr x)
      · exact h1
    · intro hx
      rcases List.mem_cons.1 ((h x).2 (List.mem_cons_of_mem _ hx)) with rfl | h1
      · exact absurd (hm.1 x hx) (irr x)
      · exact h1
theorem pl_mem {L : List Nd} {p : Int} : p ∈ plN [5] L ↔ ∃ j : Nat, p = (j : Int) ∧ j < L.length ∧ (nN L j).kind = 5 := by
  unfold plN
  rw [List.mem_map]
  constructor
  · rintro ⟨x, hx, rfl⟩
    obtain ⟨j, h1, h2, h3⟩ := (evN_mem [5] L 0 x).1 hx
    have hj := (List.getElem?_eq_some_iff.1 h2).1
    refine ⟨j, by rw [h1]; simp, hj, ?_⟩
    rw [nN_get h2]; simpa using h3
  · rintro ⟨j, rfl, hj, h5⟩
    exact ⟨(j, nN L j), (evN_mem [5] L 0 _).2 ⟨j, by simp, by rw [nN_at hj, List.getElem?_eq_getElem hj], by simpa using h5⟩, rfl⟩
theorem ev_ge (ks : List Int) : ∀ (L : List Nd) (k : Nat), ∀ x ∈ evN ks k L, k ≤ x.1
  | L, k, x, hx => by
    obtain ⟨j, h1, _⟩ := (evN_mem ks L k x).1 hx
    omega
theorem ev_nodup (ks : List Int) : ∀ (L : List Nd) (k : Nat), ((evN ks k L).map fun x => ((x.1 : Nat) : Int)).Pairwise (fun a b => a ≠ b)
  | [], _ => List.Pairwise.nil
  | d :: L, k => by
    have ih := ev_nodup ks L (k + 1)
    rw [show evN ks k (d :: L) = if d.kind ∈ ks then (k, d) :: evN ks (k + 1) L else evN ks (k + 1) L from rfl]
    by_cases h : d.kind ∈ ks
    · rw [if_pos h, List.map_cons, List.pairwise_cons]
      refine ⟨fun y hy => ?_, ih⟩
      obtain ⟨x, hx, rfl⟩ := List.mem_map.1 hy
      have := ev_ge ks L (k + 1) x hx
      show ((k : Nat) : Int) ≠ _
      omega
    · rw [if_neg h]; exact ih
end Go.Proofs.YtjpccmiaimkmbaaGreat


namespace Go.Proofs.YtjpccmiaimkmbaaGreat
open Go.RowKit Tnr Tnt

theorem rk_len {F : Nat → Nat × Nat} {B : Nat → List Int} : ∀ {ks : List Int} {c d a e : Nat}, (∀ j, j < c → (F j).1 ≤ j) → (∀ j, j < c → (B j).length ≤ j + 1 - (F j).1) → rk F ks c d = some (a, e) → (ks.reverse.flatMap fun j => B j.toNat).length ≤ c - a ∧ a ≤ c
  | [], c, d, a, e, _, _, h => by
    simp only [rk, Option.some.injEq, Prod.mk.injEq] at h
    simp; omega
  | k :: ks, c, d, a, e, hl, hB, h => by
    rw [rk_cons] at h
    by_cases hc : c = 0 ∨ k ≠ (c : Int) - 1
    · rw [if_pos hc] at h; cases h
    · rw [if_neg hc] at h
      have h3 := hl (c - 1) (by omega)
      have h4 := hB (c - 1) (by omega)
      obtain ⟨ih, hac⟩ := rk_len (ks := ks) (B := B) (fun j hj => hl j (by omega)) (fun j hj => hB j (by omega)) h
      rw [List.reverse_cons, List.flatMap_append, List.flatMap_cons, List.flatMap_nil, List.append_nil, List.length_append, show k.toNat = c - 1 by omega]
      omega
theorem beg_len {L : List Nd} {l : List (Nat × Nat)} (h : OrdOk L l) : ∀ k, k < L.length → (begB L k).length ≤ k + 1 - (gf l k).1 := by
  intro k
  induction k using Nat.strongRecOn with
  | _ k ih =>
    intro hk
    obtain ⟨d, h3, _⟩ := h.2.2 k hk
    have hlow := (h.2.1 k hk).1
    have h4 := (rk_len (B := begB L) (fun j hj => (h.2.1 j (by omega)).1) (fun j hj => ih j hj (by omega)) h3).1
    rw [List.reverse_reverse, ← nN_at hk] at h4
    rw [begB_eq h hk, List.length_append]
    split
    · rw [List.length_singleton]; omega
    · rw [List.length_nil]; omega
theorem step_runT {w w' : World} {ops : Array Oper} {o : Oper} {a : Act} {K : Act → World → Prop} {Q : Exit → Act → World → Prop} {E : Prop} (hgd : o.guard = none) (s x : Operand) (t : TypeId)
    (hop : o.op = .call { callee := .builtin .append, args := #[s, x], argTypes := #[t, t] }) (v u v' : Value) (hs : a.eval s = v) (hx : a.eval x = u)
    (hrun : (Builtin.append_ #[t, t] o.type #[v, u]).run Tryz.prog w = .ok v' w') (h : K (a.put o.dst v') w') : if Region.wanted o (yielded ops a.tmps) = true then Oper.wp Tryz.prog o a w K Q else E := by
  have hw : Region.wanted o (yielded ops a.tmps) = true := by unfold Region.wanted; rw [hgd]
  rw [if_pos hw]
  unfold Oper.wp
  simp [execOp, hop, resolve, invoke, builtin, hs, hx, hrun, Result.andThen]
  exact h
theorem cell_keep6 {w w' : World} {b i : Nat} {v : Value} (h : w.cell? ⟨b, i, none⟩ = some v) (hb : Below w.heap.size w w') : w'.cell? ⟨b, i, none⟩ = some v := by
  rw [hb.cell (World.block_lt_of_cell? _ _ h)]; exact h
theorem flat_take {α β : Type} (f : α → List β) {l : List α} {k : Nat} {a : α} (h : l.take (k + 1) = l.take k ++ [a]) : (l.take (k + 1)).flatMap f = (l.take k).flatMap f ++ f a := by
  rw [h, List.flatMap_append]; simp
theorem flat_take_le {α β : Type} (f : α → List β) (l : List α) (k : Nat) : ((l.take k).flatMap f).length ≤ (l.flatMap f).length := by
  conv => rhs; rw [← List.take_append_drop k l, List.flatMap_append, List.length_append]
  omega
set_option maxHeartbeats 6400000 in
set_option maxRecDepth 100000 in
theorem rbegun_any (p : Option Addr) (n c : Nat) (xs : List NV) (names : Value) (l : List (Nat × Nat)) (hn : n = xs.length) (hf : Few xs) (ho : ordT (nds xs) = some l) : ∀ k, k < n → ∀ w, SlN w p xs →
    Calls Tryz.prog 100 #[.agg #[.slice p n c, names], .int .i64 (k : Nat)] w fun e w' => ∃ q m d, e = .returned (.slice q m d) ∧ m = (begB (nds xs) k).length ∧ OwnZ w' w.heap.size (.slice q m d) (begB (nds xs) k) ∧ Below w.heap.size w w' := by
  obtain ⟨hok, _, hn1, hn4⟩ := ordT_ok ho
  rw [nds_length, ← hn] at hn1 hn4
  have HOK := Lib.hid hok
  have HN := Lib.hid hn
  have HN4 := Lib.hid hn4
  have HF := Lib.hid hf
  clear hok ho hn hn1 hn4 hf
  intro k
  induction k using Nat.strongRecOn with
  | _ k ih =>
  intro hkn w hp
  obtain ⟨i0, hinf, hz0, hz1, hz2⟩ := info_parts info_intz
  have HIH : Hid (∀ j, j < k → ∀ w, SlN w p xs → Calls Tryz.prog 100 #[.agg #[.slice p n c, names], .int .i64 (j : Nat)] w fun e w' => ∃ q m d, e = .returned (.slice q m d) ∧ m = (begB (nds xs) j).length ∧ OwnZ w' w.heap.size (.slice q m d) (begB (nds xs) j) ∧ Below w.heap.size w w') := fun j hj => ih j hj (by omega)
  have hkx : k < xs.length := by have := HN.out; omega
  have hkL : k < (nds xs).length := by rw [nds_length]; exact hkx
  have hBE := begB_eq HOK.out hkL
  have hkk : ∀ z ∈ (gn xs k).nd.kids, 0 ≤ z ∧ z < (k : Int) := by
    have h := ordOk_kid HOK.out hkL
    rw [← nN_at hkL, ← gn_nds] at h
    exact h
  rw [← gn_nds] at hBE
  have hBL := beg_len HOK.out k hkL
  obtain ⟨W1, hW1⟩ : ∃ W, W = w.alloc (.cells #[.slice p n c, names] 34) := ⟨_, rfl⟩
  have hb1 : Below w.heap.size w W1 := by rw [hW1]; exact bl_alloc _ _
  have hT : Bx W1 w.heap.size 34 #[.slice p n c, names] := by rw [hW1]; exact Bx.new _ _ _
  obtain ⟨b0, hb0⟩ : ∃ b, b = w.heap.size := ⟨_, rfl⟩
  rw [← hb0] at hT
  obtain ⟨b, o, rfl, hcells, hin⟩ := (hp.below hb1).at hkx
  have hf0 := (HF.out _ (gn_mem hkx)).1
  obtain ⟨x, hx⟩ : ∃ x, x = gn xs k := ⟨_, rfl⟩
  rw [← hx] at hcells hin hkk hBE hf0
  obtain ⟨ls, lk, hls, hlk, hlit⟩ := node_lit2 x
  obtain ⟨c0, c1, c2, c3, c4, c5, c6, c7, c8⟩ := hcells
  rw [← hls] at c1
  rw [← hlk] at c2
  obtain ⟨kd, hkd⟩ : ∃ z, z = x.nd.kind := ⟨_, rfl⟩
  obtain ⟨gr, hgr⟩ : ∃ z, z = x.nd.group := ⟨_, rfl⟩
  obtain ⟨ks, hks⟩ : ∃ z, z = x.nd.kids := ⟨_, rfl⟩
  obtain ⟨pk, hpk⟩ : ∃ z, z = x.pk := ⟨_, rfl⟩
  obtain ⟨ck, hck⟩ : ∃ z, z = x.ck := ⟨_, rfl⟩
  have hkz := hin.kids
  rw [← hkd] at c0 hBE
  rw [← hgr] at c3 hBE
  rw [← hpk, ← hck] at c2
  rw [← hks] at hBE hkk hlk hkz
  rw [← hpk] at hkz
  obtain ⟨W2, hW2⟩ : ∃ W, W = W1.alloc (.cells #[.int .u8 kd, .slice x.ps ls x.cs, .slice pk lk ck, .int .i64 gr, .int .i64 x.nd.mn, .int .i64 x.nd.mx, .int .u8 x.nd.mode, .int .u8 x.nd.spot, .bool x.nd.neg] 28) := ⟨_, rfl⟩
  have hb2 : Below W1.heap.size W1 W2 := by rw [hW2]; exact bl_alloc _ _
  have hX : Bx W2 W1.heap.size 28 #[.int .u8 kd, .slice x.ps ls x.cs, .slice pk lk ck, .int .i64 gr, .int .i64 x.nd.mn, .int .i64 x.nd.mx, .int .u8 x.nd.mode, .int .u8 x.nd.spot, .bool x.nd.neg] := by rw [hW2]; exact Bx.new _ _ _
  have hb02 : Below w.heap.size w W2 := bl_trans hb1 hb2
  obtain ⟨z0, _, _, z3, _, _, _, _, _⟩ := nine hX
  rw [hW2, hW1] at z0 z3
  have cT0 : W1.cell? ⟨b0, 0, none⟩ = some (.slice (some ⟨b, o, none⟩) n c) := hT.cell rfl
  rw [hb0] at cT0
  rw [hW1] at c0 c1 c2 c3 c4 c5 c6 c7 c8 cT0
  have hs1 : W1.heap.size = w.heap.size + 1 := by rw [hW1, World.size_alloc]
  have HRAW : Hid ((w.alloc (.cells #[.slice (some ⟨b, o, none⟩) n c, names] 34)).alloc (.cells #[.int .u8 kd, .slice x.ps ls x.cs, .slice pk lk ck, .int .i64 gr, .int .i64 x.nd.mn, .int .i64 x.nd.mx, .int .u8 x.nd.mode, .int .u8 x.nd.spot, .bool x.nd.neg] 28) = W2) := by show _ = _; rw [hW2, hW1]
  obtain ⟨bx, hbx⟩ : ∃ z, z = W1.heap.size := ⟨_, rfl⟩
  have HX2 : Hid (Bx W2 bx 28 #[.int .u8 kd, .slice x.ps ls x.cs, .slice pk lk ck, .int .i64 gr, .int .i64 x.nd.mn, .int .i64 x.nd.mx, .int .u8 x.nd.mode, .int .u8 x.nd.spot, .bool x.nd.neg]) := by rw [hbx]; exact hX
  have HT2 := Lib.hid (hT.below hb2)
  have HP2 := Lib.hid (hp.below hb02)
  have HB2 := Lib.hid hb02
  have HKZ := Lib.hid (hkz.below hb2)
  have HKK := Lib.hid hkk
  have HLK := Lib.hid hlk
  have HLL : Hid (lk ≤ 1000000) := by show _ ≤ _; rw [hlk, hks]; exact hf0
  have HBE := Lib.hid hBE
  have HBL : Hid ((begB (nds xs) k).length ≤ 4000) := by have := HN4.out; show _ ≤ _; omega
  have HW1 := Lib.hid (And.intro hW1 hb0)
  have HW2 := Lib.hid (And.intro hW2 hbx)
  have HNB : Hid (bx = w.heap.size + 1 ∧ b0 = w.heap.size) := ⟨hbx.trans hs1, hb0⟩
  have hkI : (k : Int) < n := by omega
  clear ih hBE hkk hBL hb1 hT hp hin hlit hls hlk hkd hgr hks hpk hck hkz hb2 hX hb02 hx hkx hkL hW1 hW2 hb0 hbx hs1 hf0
  have HWF : Hid (W1.alloc (.cells #[.int .u8 kd, .slice x.ps ls x.cs, .slice pk lk ck, .int .i64 gr, .int .i64 x.nd.mn, .int .i64 x.nd.mx, .int .u8 x.nd.mode, .int .u8 x.nd.spot, .bool x.nd.neg] 28) = W2) := HW2.out.1.symm
  by_cases h5 : kd = 5
  · have e5 : (kd == 5) = true := by simpa using h5
    have HHD : Hid (begB (nds xs) k = [gr] ++ ks.flatMap fun j => begB (nds xs) j.toNat) := by show _ = _; rw [HBE.out, if_pos h5]
    clear h5
    go_enter Tryz.func100, Tryz.ntmps100
    go_upto_region 4 with fail
    rw [HRAW.out, ← HNB.out.1, ← HNB.out.2]
    clear c0 c1 c2 c3 c4 c5 c6 c7 c8 cT0 z0 z3
    have z3 := HX2.out.cell (i := 3) rfl
    go_wp2_with (at_builtin; refine wpList_append_own _ rfl _ _ 24 rfl W2.heap.size 3 i0 (.int .i64 0) 1 8 Tryz.underlying24 hinf hz0 hz1 hz2 rfl (by decide) (.slice none 0 0) 0 _ rfl (World.ownsRow_nil _ _ _ _) ⟨W2.heap.size, 0, none⟩ 1 1 [.int .i64 gr] rfl rfl (cells_one_z _ _ _) (by simp [Value.oneCell']) (by simp only [maxLen]; omega) (by omega) (by simp) ?_)
    intro v5 w5 hown5 hgrow5 _
    have hO5 : OwnZ w5 W2.heap.size v5 ([] ++ [gr]) := ownZ_appended rfl hown5
    rw [List.nil_append] at hO5
    obtain ⟨q5, d5, e5, _⟩ := ownZ_form hO5
    obtain rfl : v5 = .slice q5 1 d5 := e5
    have HO5 : Hid (OwnZ w5 W2.heap.size (.slice q5 1 d5) [gr]) := hO5
    have HB5 : Hid (Below W2.heap.size W2 w5) := ((Below.refl _ _).alloc (Nat.le_refl _) _).grown hgrow5 (by simp) (fun g hg => by simp [Value.ownBlock] at hg)
    clear hown5 hgrow5 hO5 z3
    go_wp2
    go_loopw [5, 7] (fun ov iv wr => ∃ (j m : Nat) (q : Option Addr) (d : Nat), ov = .slice q m d ∧ iv = .int .i64 (j : Nat) ∧ j ≤ lk ∧ Hid (m = ([gr] ++ (ks.take j).flatMap fun z => begB (nds xs) z.toNat).length) ∧ Hid (OwnZ wr W2.heap.size (.slice q m d) ([gr] ++ (ks.take j).flatMap fun z => begB (nds xs) z.toNat)) ∧ Hid (Below W2.heap.size W2 wr)) (fun _ iv _ => lk - (intOf iv).toNat)
    case atStart => exact ⟨0, 1, q5, d5, rfl, rfl, Nat.zero_le _, by (show _ = _; simp), by (show OwnZ _ _ _ _; simpa using HO5.out), HB5.out⟩
    case round =>
      obtain ⟨j, m, q, d, rfl, rfl, hj, HM, HO, HW⟩ := hrel
      rename World => wr
      have hXr := HX2.out.below HW.out
      have cX2 := hXr.cell (i := 2) rfl
      have cT0 := (HT2.out.below HW.out).cell (i := 0) rfl
      have cT1 := (HT2.out.below HW.out).cell (i := 1) rfl
      have HLE := Lib.hid (flat_take_le (fun z : Int => begB (nds xs) z.toNat) ks)
      clear hXr
      by_cases hjl : j < lk
      · have hjI : (j : Int) < lk := by omega
        have hjx : j < ks.length := by have := HLK.out; omega
        obtain ⟨b2, o2, rfl, ck2⟩ := slz_at HKZ.out hjx
        have hzk := HKK.out (gz ks j) (by rw [gz_get hjx]; exact List.getElem_mem hjx)
        have hft := flat_take (fun z : Int => begB (nds xs) z.toNat) (gz_take hjx)
        obtain ⟨zz, hzz⟩ : ∃ y, y = gz ks j := ⟨_, rfl⟩
        rw [← hzz] at ck2 hzk hft
        obtain ⟨zn, rfl⟩ : ∃ y : Nat, zz = (y : Int) := ⟨zz.toNat, by omega⟩
        have hznk : zn < k := by omega
        rw [Int.toNat_natCast] at hft
        have HFT := Lib.hid hft
        have hcw : wr.cell? ⟨b2, o2 + j, none⟩ = some (.int .i64 (zn : Nat)) := cell_keep6 ck2 HW.out
        have hL1 := HLE.out (j + 1)
        rw [hft, List.length_append] at hL1
        have HL1 : Hid (([gr] ++ (ks.take j).flatMap fun z => begB (nds xs) z.toNat).length + (begB (nds xs) zn).length ≤ 4000) := by
          show _ ≤ _
          have h1 := HBL.out
          rw [HHD.out, List.length_append] at h1
          rw [List.length_append]
          omega
        have hwj : IntKind.i64.wrap ((j : Nat) + 1 : Int) = (j : Nat) + 1 := by rw [IntKind.wrap_i64]; have := HLL.out; omega
        have hS2 : (fun (V : World) => V.cell? ⟨b0, 0, none⟩ = some (.slice (some ⟨b, o, none⟩) n c) ∧ V.cell? ⟨b0, 1, none⟩ = some (names) ∧ V.cell? ⟨bx, 2, none⟩ = some (.slice (some ⟨b2, o2, none⟩) lk ck) ∧ V.cell? ⟨b2, o2 + j, none⟩ = some (.int .i64 (zn : Nat))) W2 := ⟨HT2.out.cell rfl, HT2.out.cell rfl, HX2.out.cell rfl, ck2⟩
        have HS2 := Lib.hid hS2
        have HSV : Hid (∀ V, Below W2.heap.size W2 V → (fun (V : World) => V.cell? ⟨b0, 0, none⟩ = some (.slice (some ⟨b, o, none⟩) n c) ∧ V.cell? ⟨b0, 1, none⟩ = some (names) ∧ V.cell? ⟨bx, 2, none⟩ = some (.slice (some ⟨b2, o2, none⟩) lk ck) ∧ V.cell? ⟨b2, o2 + j, none⟩ = some (.int .i64 (zn : Nat))) V) := fun V hV => ⟨cell_keep6 HS2.out.1 hV, cell_keep6 HS2.out.2.1 hV, cell_keep6 HS2.out.2.2.1 hV, cell_keep6 HS2.out.2.2.2 hV⟩
        clear hzz hzk hft hL1 hjx ck2 hS2
        go_wp2
        refine wp_region_L (S := fun (V : World) => V.cell? ⟨b0, 0, none⟩ = some (.slice (some ⟨b, o, none⟩) n c) ∧ V.cell? ⟨b0, 1, none⟩ = some (names) ∧ V.cell? ⟨bx, 2, none⟩ = some (.slice (some ⟨b2, o2, none⟩) lk ck) ∧ V.cell? ⟨b2, o2 + j, none⟩ = some (.int .i64 (zn : Nat))) (S2 := fun (V : World) => V.cell? ⟨b0, 0, none⟩ = some (.slice (some ⟨b, o, none⟩) n c) ∧ V.cell? ⟨b0, 1, none⟩ = some (names) ∧ V.cell? ⟨bx, 2, none⟩ = some (.slice (some ⟨b2, o2, none⟩) lk ck) ∧ V.cell? ⟨b2, o2 + j, none⟩ = some (.int .i64 (zn : Nat))) 9 9 (by kernel_rfl) ?_
        have hbd : Below W2.heap.size W2 wr.drew := HW.out.drew
        have HOD : Hid (OwnZ wr.drew W2.heap.size (.slice q m d) _) := HO
        obtain ⟨WZ, hWZ⟩ : ∃ W, W = wr.drew := ⟨_, rfl⟩
        rw [← hWZ] at hbd HOD ⊢
        have HBD := Lib.hid hbd
        have hS := HSV.out WZ hbd
        have hS2 := hS
        clear hWZ hbd cX2 cT0 cT1 hcw HO
        refine anyL_take1 (i := 0) (oi := ⟨some 28, Op.move (.tmp 5), 24, "ref.go:150", #[], none⟩) (u := ?_) rfl (by kernel_rfl) (fun _ _ _ h => h) (Or.inl ⟨by kernel_rfl, ?_⟩) ⟨fun _ => hS, fun _ => hS2⟩ ?_
        rotate_left
        focus (intro w hSw; (try dsimp only at hSw); go_simp; with_reducible rfl)
        try simp only [Act.put, sb0, sb1, sb2]
        refine anyL_take1 (i := 1) (oi := ⟨some 29, Op.load 34 (.tmp 2), 34, "ref.go:150", #[], none⟩) (u := ?_) rfl (by kernel_rfl) (fun _ _ _ h => h) (Or.inl ⟨by kernel_rfl, ?_⟩) ⟨fun _ => hS, fun _ => hS2⟩ ?_
        rotate_left
        focus (intro w hSw; (try dsimp only at hSw); go_simp; with_reducible rfl)
        try simp only [Act.put, sb0, sb1, sb2]
        refine anyL_take1 (i := 2) (oi := ⟨some 30, Op.fieldAddr 28 (.tmp 6) 2, 0, "ref.go:150", #[], none⟩) (u := ?_) rfl (by kernel_rfl) (fun _ _ _ h => h) (Or.inl ⟨by kernel_rfl, ?_⟩) ⟨fun _ => hS, fun _ => hS2⟩ ?_
        rotate_left
        focus (intro w hSw; (try dsimp only at hSw); go_simp; with_reducible rfl)
        try simp only [Act.put, sb0, sb1, sb2]
        refine anyL_take1 (i := 3) (oi := ⟨some 31, Op.load 24 (.tmp 30), 24, "ref.go:150", #[⟨2, .data⟩], none⟩) (u := ?_) rfl (by kernel_rfl) (fun _ _ _ h => h) (Or.inl ⟨by kernel_rfl, ?_⟩) ⟨fun _ => hS, fun _ => hS2⟩ ?_
        rotate_left
        focus (intro w hSw; (try dsimp only at hSw); go_simp; with_reducible rfl)
        try simp only [Act.put, sb0, sb1, sb2]
        refine anyL_take1 (i := 4) (oi := ⟨some 32, Op.move (.tmp 7), 3, "ref.go:150", #[], none⟩) (u := ?_) rfl (by kernel_rfl) (fun _ _ _ h => h) (Or.inl ⟨by kernel_rfl, ?_⟩) ⟨fun _ => hS, fun _ => hS2⟩ ?_
        rotate_left
        focus (intro w hSw; (try dsimp only at hSw); go_simp; with_reducible rfl)
        try simp only [Act.put, sb0, sb1, sb2]
        refine anyL_take1 (i := 5) (oi := ⟨some 33, Op.indexAddr 24 (.tmp 31) (.tmp 32), 0, "ref.go:150", #[⟨3, .data⟩, ⟨4, .data⟩], none⟩) (u := ?_) rfl (by kernel_rfl) (fun _ _ _ h => h) (Or.inl ⟨by kernel_rfl, ?_⟩) ⟨fun _ => hS, fun _ => hS2⟩ ?_
        rotate_left
        focus (intro w hSw; (try dsimp only at hSw); go_simp; with_reducible rfl)
        try simp only [Act.put, sb0, sb1, sb2]
        refine anyL_take1 (i := 6) (oi := ⟨some 34, Op.load 3 (.tmp 33), 3, "ref.go:150", #[⟨5, .data⟩], none⟩) (u := ?_) rfl (by kernel_rfl) (fun _ _ _ h => h) (Or.inl ⟨by kernel_rfl, ?_⟩) ⟨fun _ => hS, fun _ => hS2⟩ ?_
        rotate_left
        focus (intro w hSw; (try dsimp only at hSw); go_simp; with_reducible rfl)
        try simp only [Act.put, sb0, sb1, sb2]
        refine anyL_one (i := 7) (o := ⟨some 35, Op.call ⟨.value (.func 100), #[.tmp 29, .tmp 34], #[34, 3]⟩, 24, "ref.go:150", #[⟨1, .data⟩, ⟨6, .data⟩], none⟩) (by kernel_rfl) rfl (fun K hK => ?_)
        go_simp
        refine (HIH.out zn hznk WZ (HP2.out.below HBD.out)).mono ?_
        rintro e v1 ⟨q1, m1, d1, rfl, hm1, ho1, hbv1⟩
        have HO1 := Lib.hid (And.intro hm1 ho1)
        have HBv1 : Hid (Below W2.heap.size W2 v1) := bl_trans HBD.out hbv1
        have HOv : Hid (OwnZ v1 W2.heap.size (.slice q m d) _) := ownZ_below HOD.out hbv1
        have hSv1 := HSV.out v1 HBv1.out
        refine hK.out _ _ ⟨fun _ => hSv1, fun _ => hSv1⟩ ?_
        clear hK K hS hS2 hbv1 hm1 ho1
        have hS := hSv1
        have hS2 := hSv1
        clear hSv1
        try simp only [Act.put, sb0, sb1, sb2]
        refine anyL_one (i := 8) (o := ⟨some 36, Op.call { callee := Callee.builtin Builtin.append, args := #[.tmp 28, .tmp 35], argTypes := #[24, 24] }, 24, "ref.go:150", #[⟨0, .data⟩, ⟨7, .data⟩, ⟨7, .chain⟩], none⟩) (by kernel_rfl) rfl (fun K hK => ?_)
        obtain ⟨p1, c1', e1', _, _, hn1', hs1'⟩ := ownZ_form HO1.out.2
        rw [← HO1.out.1] at e1'
        obtain ⟨rfl, rfl⟩ : q1 = p1 ∧ d1 = c1' := by simpa using e1'
        have hro := ownZ_row HOv.out HM.out
        have hjoin := run_joinX (Ts := 24) (ty := 24) Tryz.underlying24 hinf hz0 hz1 hz2 rfl (by decide) (by decide) hro (news := (begB (nds xs) zn).map (Value.int .i64)) (m := m1) (cq := d1) (q := q1) (by rw [List.length_map, HO1.out.1]; simp) (by rw [HO1.out.1]; exact slz_news hs1') hn1' int_one (by have := HL1.out; have := HM.out; have := HO1.out.1; omega) HBv1.out.size
        obtain ⟨v', w', hrun, hown, hg⟩ := hjoin
        refine step_runT (by rfl) _ _ 24 (by rfl) _ _ _ (by rfl) (by rfl) hrun ?_
        have hO9 : OwnZ w' W2.heap.size v' (([gr] ++ (ks.take j).flatMap fun z => begB (nds xs) z.toNat) ++ begB (nds xs) zn) := by
          unfold OwnZ
          rw [List.map_append, List.length_append, ← HM.out, ← HO1.out.1]; exact hown
        rw [List.append_assoc, ← HFT.out] at hO9
        have hb9 : Below W2.heap.size W2 w' := HBv1.out.grown hg HBv1.out.size (fun g hg => (hro.lt g hg).1)
        obtain ⟨q9, d9, e9, _⟩ := ownZ_form hO9
        obtain ⟨m9, hm9⟩ : ∃ y, y = ([gr] ++ (ks.take (j + 1)).flatMap fun z => begB (nds xs) z.toNat).length := ⟨_, rfl⟩
        rw [← hm9] at e9
        subst e9
        have HO9 := Lib.hid hO9
        have HM9 := Lib.hid hm9
        have HB9 := Lib.hid hb9
        have hSw := HSV.out w' hb9
        refine hK.out _ _ ⟨fun _ => hSw, fun _ => hSw⟩ ?_
        clear hK K hS hS2 hro hrun hown hg hO9 hm9 hb9 hn1' hs1' e1'
        have hS := hSw
        have hS2 := hSw
        clear hSw
        try simp only [Act.put, sb0, sb1, sb2]
        refine anyL_one (i := 9) (o := ⟨some 5, Op.assign (.tmp 36), 24, "ref.go:150", #[⟨8, .data⟩, ⟨8, .chain⟩, ⟨0, .phase⟩, ⟨1, .phase⟩, ⟨2, .phase⟩, ⟨3, .phase⟩, ⟨4, .phase⟩, ⟨5, .phase⟩, ⟨6, .phase⟩, ⟨7, .phase⟩, ⟨8, .phase⟩], none⟩) (by kernel_rfl) rfl (fun K hK => ?_)
        go_simp
        refine hK.out _ _ ⟨fun h => absurd h (by decide), fun h => absurd h (by decide)⟩ ?_
        clear hK K hS hS2
        try simp only [Act.put, sb0, sb1, sb2]
        refine anyL_done (by kernel_rfl) (show onlyN _ .normal _ _ from ?_) _
        dsimp only [onlyN]
        go_wp2
        go_roundw
        case rel => exact ⟨j + 1, m9, q9, d9, rfl, by go_num, by omega, HM9.out, HO9.out, HB9.out⟩
        case measure => simp [intOf] <;> omega
      · obtain rfl : j = lk := by omega
        have hjI : (j : Int) ≤ j := by omega
        have HFIN : Hid ([gr] ++ ((ks.take j).flatMap fun z => begB (nds xs) z.toNat) = begB (nds xs) k) := by show _ = _; rw [HHD.out, HLK.out, List.take_length]
        go_wp2
        go_ret
        rw [HFIN.out] at HM HO
        exact ⟨_, _, _, rfl, HM.out, ownZ_down HO.out HB2.out.size, bl_trans HB2.out HW.out⟩
  · have e5 : (kd == 5) = false := by simpa using h5
    have HHD : Hid (begB (nds xs) k = [] ++ ks.flatMap fun j => begB (nds xs) j.toNat) := by show _ = _; rw [HBE.out, if_neg h5]
    clear h5
    go_enter Tryz.func100, Tryz.ntmps100
    go_upto_region 5 with fail
    rw [HRAW.out, ← HNB.out.1, ← HNB.out.2]
    clear c0 c1 c2 c3 c4 c5 c6 c7 c8 cT0 z0 z3
    go_wp2
    go_loopw [5, 7] (fun ov iv wr => ∃ (j m : Nat) (q : Option Addr) (d : Nat), ov = .slice q m d ∧ iv = .int .i64 (j : Nat) ∧ j ≤ lk ∧ Hid (m = (([] : List Int) ++ (ks.take j).flatMap fun z => begB (nds xs) z.toNat).length) ∧ Hid (OwnZ wr W2.heap.size (.slice q m d) (([] : List Int) ++ (ks.take j).flatMap fun z => begB (nds xs) z.toNat)) ∧ Hid (Below W2.heap.size W2 wr)) (fun _ iv _ => lk - (intOf iv).toNat)
    case atStart => exact ⟨0, 0, none, 0, rfl, rfl, Nat.zero_le _, by (show _ = _; simp), by (show OwnZ _ _ _ _; simpa using ownZ_nil _ _), Below.refl _ _⟩
    case round =>
      obtain ⟨j, m, q, d, rfl, rfl, hj, HM, HO, HW⟩ := hrel
      rename World => wr
      have hXr := HX2.out.below HW.out
      have cX2 := hXr.cell (i := 2) rfl
      have cT0 := (HT2.out.below HW.out).cell (i := 0) rfl
      have cT1 := (HT2.out.below HW.out).cell (i := 1) rfl
      have HLE := Lib.hid (flat_take_le (fun z : Int => begB (nds xs) z.toNat) ks)
      clear hXr
      by_cases hjl : j < lk
      · have hjI : (j : Int) < lk := by omega
        have hjx : j < ks.length := by have := HLK.out; omega
        obtain ⟨b2, o2, rfl, ck2⟩ := slz_at HKZ.out hjx
        have hzk := HKK.out (gz ks j) (by rw [gz_get hjx]; exact List.getElem_mem hjx)
        have hft := flat_take (fun z : Int => begB (nds xs) z.toNat) (gz_take hjx)
        obtain ⟨zz, hzz⟩ : ∃ y, y = gz ks j := ⟨_, rfl⟩
        rw [← hzz] at ck2 hzk hft
        obtain ⟨zn, rfl⟩ : ∃ y : Nat, zz = (y : Int) := ⟨zz.toNat, by omega⟩
        have hznk : zn < k := by omega
        rw [Int.toNat_natCast] at hft
        have HFT := Lib.hid hft
        have hcw : wr.cell? ⟨b2, o2 + j, none⟩ = some (.int .i64 (zn : Nat)) := cell_keep6 ck2 HW.out
        have hL1 := HLE.out (j + 1)
        rw [hft, List.length_append] at hL1
        have HL1 : Hid ((([] : List Int) ++ (ks.take j).flatMap fun z => begB (nds xs) z.toNat).length + (begB (nds xs) zn).length ≤ 4000) := by
          show _ ≤ _
          have h1 := HBL.out
          rw [HHD.out, List.length_append] at h1
          rw [List.length_append]
          omega
        have hwj : IntKind.i64.wrap ((j : Nat) + 1 : Int) = (j : Nat) + 1 := by rw [IntKind.wrap_i64]; have := HLL.out; omega
        have hS2 : (fun (V : World) => V.cell? ⟨b0, 0, none⟩ = some (.slice (some ⟨b, o, none⟩) n c) ∧ V.cell? ⟨b0, 1, none⟩ = some (names) ∧ V.cell? ⟨bx, 2, none⟩ = some (.slice (some ⟨b2, o2, none⟩) lk ck) ∧ V.cell? ⟨b2, o2 + j, none⟩ = some (.int .i64 (zn : Nat))) W2 := ⟨HT2.out.cell rfl, HT2.out.cell rfl, HX2.out.cell rfl, ck2⟩
        have HS2 := Lib.hid hS2
        have HSV : Hid (∀ V, Below W2.heap.size W2 V → (fun (V : World) => V.cell? ⟨b0, 0, none⟩ = some (.slice (some ⟨b, o, none⟩) n c) ∧ V.cell? ⟨b0, 1, none⟩ = some (names) ∧ V.cell? ⟨bx, 2, none⟩ = some (.slice (some ⟨b2, o2, none⟩) lk ck) ∧ V.cell? ⟨b2, o2 + j, none⟩ = some (.int .i64 (zn : Nat))) V) := fun V hV => ⟨cell_keep6 HS2.out.1 hV, cell_keep6 HS2.out.2.1 hV, cell_keep6 HS2.out.2.2.1 hV, cell_keep6 HS2.out.2.2.2 hV⟩
        clear hzz hzk hft hL1 hjx ck2 hS2
        go_wp2
        refine wp_region_L (S := fun (V : World) => V.cell? ⟨b0, 0, none⟩ = some (.slice (some ⟨b, o, none⟩) n c) ∧ V.cell? ⟨b0, 1, none⟩ = some (names) ∧ V.cell? ⟨bx, 2, none⟩ = some (.slice (some ⟨b2, o2, none⟩) lk ck) ∧ V.cell? ⟨b2, o2 + j, none⟩ = some (.int .i64 (zn : Nat))) (S2 := fun (V : World) => V.cell? ⟨b0, 0, none⟩ = some (.slice (some ⟨b, o, none⟩) n c) ∧ V.cell? ⟨b0, 1, none⟩ = some (names) ∧ V.cell? ⟨bx, 2, none⟩ = some (.slice (some ⟨b2, o2, none⟩) lk ck) ∧ V.cell? ⟨b2, o2 + j, none⟩ = some (.int .i64 (zn : Nat))) 9 9 (by kernel_rfl) ?_
        have hbd : Below W2.heap.size W2 wr.drew := HW.out.drew
        have HOD : Hid (OwnZ wr.drew W2.heap.size (.slice q m d) _) := HO
        obtain ⟨WZ, hWZ⟩ : ∃ W, W = wr.drew := ⟨_, rfl⟩
        rw [← hWZ] at hbd HOD ⊢
        have HBD := Lib.hid hbd
        have hS := HSV.out WZ hbd
        have hS2 := hS
        clear hWZ hbd cX2 cT0 cT1 hcw HO
        refine anyL_take1 (i := 0) (oi := ⟨some 28, Op.move (.tmp 5), 24, "ref.go:150", #[], none⟩) (u := ?_) rfl (by kernel_rfl) (fun _ _ _ h => h) (Or.inl ⟨by kernel_rfl, ?_⟩) ⟨fun _ => hS, fun _ => hS2⟩ ?_
        rotate_left
        focus (intro w hSw; (try dsimp only at hSw); go_simp; with_reducible rfl)
        try simp only [Act.put, sb0, sb1, sb2]
        refine anyL_take1 (i := 1) (oi := ⟨some 29, Op.load 34 (.tmp 2), 34, "ref.go:150", #[], none⟩) (u := ?_) rfl (by kernel_rfl) (fun _ _ _ h => h) (Or.inl ⟨by kernel_rfl, ?_⟩) ⟨fun _ => hS, fun _ => hS2⟩ ?_
        rotate_left
        focus (intro w hSw; (try dsimp only at hSw); go_simp; with_reducible rfl)
        try simp only [Act.put, sb0, sb1, sb2]
        refine anyL_take1 (i := 2) (oi := ⟨some 30, Op.fieldAddr 28 (.tmp 6) 2, 0, "ref.go:150", #[], none⟩) (u := ?_) rfl (by kernel_rfl) (fun _ _ _ h => h) (Or.inl ⟨by kernel_rfl, ?_⟩) ⟨fun _ => hS, fun _ => hS2⟩ ?_
        rotate_left
        focus (intro w hSw; (try dsimp only at hSw); go_simp; with_reducible rfl)
        try simp only [Act.put, sb0, sb1, sb2]
        refine anyL_take1 (i := 3) (oi := ⟨some 31, Op.load 24 (.tmp 30), 24, "ref.go:150", #[⟨2, .data⟩], none⟩) (u := ?_) rfl (by kernel_rfl) (fun _ _ _ h => h) (Or.inl ⟨by kernel_rfl, ?_⟩) ⟨fun _ => hS, fun _ => hS2⟩ ?_
        rotate_left
        focus (intro w hSw; (try dsimp only at hSw); go_simp; with_reducible rfl)
        try simp only [Act.put, sb0, sb1, sb2]
        refine anyL_take1 (i := 4) (oi := ⟨some 32, Op.move (.tmp 7), 3, "ref.go:150", #[], none⟩) (u := ?_) rfl (by kernel_rfl) (fun _ _ _ h => h) (Or.inl ⟨by kernel_rfl, ?_⟩) ⟨fun _ => hS, fun _ => hS2⟩ ?_
        rotate_left
        focus (intro w hSw; (try dsimp only at hSw); go_simp; with_reducible rfl)
        try simp only [Act.put, sb0, sb1, sb2]
        refine anyL_take1 (i := 5) (oi := ⟨some 33, Op.indexAddr 24 (.tmp 31) (.tmp 32), 0, "ref.go:150", #[⟨3, .data⟩, ⟨4, .data⟩], none⟩) (u := ?_) rfl (by kernel_rfl) (fun _ _ _ h => h) (Or.inl ⟨by kernel_rfl, ?_⟩) ⟨fun _ => hS, fun _ => hS2⟩ ?_
        rotate_left
        focus (intro w hSw; (try dsimp only at hSw); go_simp; with_reducible rfl)
        try simp only [Act.put, sb0, sb1, sb2]
        refine anyL_take1 (i := 6) (oi := ⟨some 34, Op.load 3 (.tmp 33), 3, "ref.go:150", #[⟨5, .data⟩], none⟩) (u := ?_) rfl (by kernel_rfl) (fun _ _ _ h => h) (Or.inl ⟨by kernel_rfl, ?_⟩) ⟨fun _ => hS, fun _ => hS2⟩ ?_
        rotate_left
        focus (intro w hSw; (try dsimp only at hSw); go_simp; with_reducible rfl)
        try simp only [Act.put, sb0, sb1, sb2]
        refine anyL_one (i := 7) (o := ⟨some 35, Op.call ⟨.value (.func 100), #[.tmp 29, .tmp 34], #[34, 3]⟩, 24, "ref.go:150", #[⟨1, .data⟩, ⟨6, .data⟩], none⟩) (by kernel_rfl) rfl (fun K hK => ?_)
        go_simp
        refine (HIH.out zn hznk WZ (HP2.out.below HBD.out)).mono ?_
        rintro e v1 ⟨q1, m1, d1, rfl, hm1, ho1, hbv1⟩
        have HO1 := Lib.hid (And.intro hm1 ho1)
        have HBv1 : Hid (Below W2.heap.size W2 v1) := bl_trans HBD.out hbv1
        have HOv : Hid (OwnZ v1 W2.heap.size (.slice q m d) _) := ownZ_below HOD.out hbv1
        have hSv1 := HSV.out v1 HBv1.out
        refine hK.out _ _ ⟨fun _ => hSv1, fun _ => hSv1⟩ ?_
        clear hK K hS hS2 hbv1 hm1 ho1
        have hS := hSv1
        have hS2 := hSv1
        clear hSv1
        try simp only [Act.put, sb0, sb1, sb2]
        refine anyL_one (i := 8) (o := ⟨some 36, Op.call { callee := Callee.builtin Builtin.append, args := #[.tmp 28, .tmp 35], argTypes := #[24, 24] }, 24, "ref.go:150", #[⟨0, .data⟩, ⟨7, .data⟩, ⟨7, .chain⟩], none⟩) (by kernel_rfl) rfl (fun K hK => ?_)
        obtain ⟨p1, c1', e1', _, _, hn1', hs1'⟩ := ownZ_form HO1.out.2
        rw [← HO1.out.1] at e1'
        obtain ⟨rfl, rfl⟩ : q1 = p1 ∧ d1 = c1' := by simpa using e1'
        have hro := ownZ_row HOv.out HM.out
        have hjoin := run_joinX (Ts := 24) (ty := 24) Tryz.underlying24 hinf hz0 hz1 hz2 rfl (by decide) (by decide) hro (news := (begB (nds xs) zn).map (Value.int .i64)) (m := m1) (cq := d1) (q := q1) (by rw [List.length_map, HO1.out.1]; simp) (by rw [HO1.out.1]; exact slz_news hs1') hn1' int_one (by have := HL1.out; have := HM.out; have := HO1.out.1; omega) HBv1.out.size
        obtain ⟨v', w', hrun, hown, hg⟩ := hjoin
        refine step_runT (by rfl) _ _ 24 (by rfl) _ _ _ (by rfl) (by rfl) hrun ?_
        have hO9 : OwnZ w' W2.heap.size v' ((([] : List Int) ++ (ks.take j).flatMap fun z => begB (nds xs) z.toNat) ++ begB (nds xs) zn) := by
          unfold OwnZ
          rw [List.map_append, List.length_append, ← HM.out, ← HO1.out.1]; exact hown
        rw [List.append_assoc, ← HFT.out] at hO9
        have hb9 : Below W2.heap.size W2 w' := HBv1.out.grown hg HBv1.out.size (fun g hg => (hro.lt g hg).1)
        obtain ⟨q9, d9, e9, _⟩ := ownZ_form hO9
        obtain ⟨m9, hm9⟩ : ∃ y, y = (([] : List Int) ++ (ks.take (j + 1)).flatMap fun z => begB (nds xs) z.toNat).length := ⟨_, rfl⟩
        rw [← hm9] at e9
        subst e9
        have HO9 := Lib.hid hO9
        have HM9 := Lib.hid hm9
        have HB9 := Lib.hid hb9
        have hSw := HSV.out w' hb9
        refine hK.out _ _ ⟨fun _ => hSw, fun _ => hSw⟩ ?_
        clear hK K hS hS2 hro hrun hown hg hO9 hm9 hb9 hn1' hs1' e1'
        have hS := hSw
        have hS2 := hSw
        clear hSw
        try simp only [Act.put, sb0, sb1, sb2]
        refine anyL_one (i := 9) (o := ⟨some 5, Op.assign (.tmp 36), 24, "ref.go:150", #[⟨8, .data⟩, ⟨8, .chain⟩, ⟨0, .phase⟩, ⟨1, .phase⟩, ⟨2, .phase⟩, ⟨3, .phase⟩, ⟨4, .phase⟩, ⟨5, .phase⟩, ⟨6, .phase⟩, ⟨7, .phase⟩, ⟨8, .phase⟩], none⟩) (by kernel_rfl) rfl (fun K hK => ?_)
        go_simp
        refine hK.out _ _ ⟨fun h => absurd h (by decide), fun h => absurd h (by decide)⟩ ?_
        clear hK K hS hS2
        try simp only [Act.put, sb0, sb1, sb2]
        refine anyL_done (by kernel_rfl) (show onlyN _ .normal _ _ from ?_) _
        dsimp only [onlyN]
        go_wp2
        go_roundw
        case rel => exact ⟨j + 1, m9, q9, d9, rfl, by go_num, by omega, HM9.out, HO9.out, HB9.out⟩
        case measure => simp [intOf] <;> omega
      · obtain rfl : j = lk := by omega
        have hjI : (j : Int) ≤ j := by omega
        have HFIN : Hid (([] : List Int) ++ ((ks.take j).flatMap fun z => begB (nds xs) z.toNat) = begB (nds xs) k) := by show _ = _; rw [HHD.out, HLK.out, List.take_length]
        go_wp2
        go_ret
        rw [HFIN.out] at HM HO
        exact ⟨_, _, _, rfl, HM.out, ownZ_down HO.out HB2.out.size, bl_trans HB2.out HW.out⟩
end Go.Proofs.YtjpccmiaimkmbaaGreat

