/- Rows of rows of ranges of a call's own, appended to, one turned; what parts.Of tells of them, by a key. -/
import Derived.Test.YtildfjlaieaadaaGreatHa
import Derived.Test.YtildfjlaieaadaaGreatQp

namespace Go.Proofs.YtildfjlaieaadaaGreat
open Go.RowKit Tnr

structure Rws (w : World) (B : Nat) (v : Value) (xs : List SV) : Prop where
  out : w.ownsRow B 29 1 v xs.length (xs.map svV)
  own : ∀ x ∈ xs, OwnR w B (svV x) x.2.2
theorem Rws.below {w w' : World} {B : Nat} {v : Value} {xs : List SV} (h : Rws w B v xs) (hb : Below w.heap.size w w') : Rws w' B v xs := by
  refine ⟨?_, fun x hx => ownR_below (h.own x hx) hb⟩
  obtain ⟨h1, h2⟩ := h.out
  refine ⟨h1, ?_⟩
  rcases h2 with h2 | ⟨g, cap, cur, rfl, hg, hh, r⟩
  · exact .inl h2
  · exact .inr ⟨g, cap, cur, rfl, hg, by rw [hb.block g (lt_of_block hh)]; exact hh, r⟩
theorem Rws.nil (w : World) (B : Nat) : Rws w B (.slice none 0 0) [] := ⟨World.ownsRow_nil w B _ 1, fun x hx => by simp at hx⟩
theorem rws_ne {w : World} {B B' n : Nat} {v u : Value} {ys : List Value} {l : List R} (h : w.ownsRow B 29 1 v n ys) (ho : OwnR w B' u l) : u.ownBlock = none ∨ u.ownBlock ≠ v.ownBlock := by
  rcases h.2 with ⟨rfl, _⟩ | ⟨g, cap, cur, rfl, _, hh, _⟩
  · cases hu : u.ownBlock with
    | none => exact .inl rfl
    | some g => right; intro e; cases e
  · right; exact ownR_ne ho hh (by decide)
theorem size_alloc (w : World) (o : Obj) : (w.alloc o).heap.size = w.heap.size + 1 := by show (w.heap.push _).size = _; simp
theorem Rws.form {w : World} {B : Nat} {v : Value} {xs : List SV} (h : Rws w B v xs) : ∃ q c, v = .slice q xs.length c ∧ xs.length ≤ c := by
  rcases h.out.2 with ⟨rfl, hn⟩ | ⟨g, cap, cur, rfl, _, _, hc, _⟩
  · exact ⟨none, 0, by rw [hn], by omega⟩
  · exact ⟨_, _, rfl, hc⟩
/-- a row more, whose slice lies in a block just made. -/
theorem run_rws {w : World} {B cq : Nat} {v : Value} {xs : List SV} (T : TypeId) (x : SV) (h : Rws w B v xs) (hx : OwnR w B (svV x) x.2.2) (hm : xs.length + 1 ≤ 1000000) (hB : B ≤ w.heap.size) :
    ∃ v' w', (Builtin.append_ #[22, 22] T #[v, .slice (some ⟨w.heap.size, 0, none⟩) 1 cq]).run Tryz.prog (w.alloc (.cells #[svV x] 29)) = .ok v' w' ∧ Rws w' B v' (xs ++ [x]) ∧ (w.alloc (.cells #[svV x] 29)).grownBy w' v.ownBlock := by
  obtain ⟨i0, hinf, hz0, hz1, hz2⟩ := info_parts info_rows
  have h' := h.below (bl_alloc w (.cells #[svV x] 29))
  have hx' := ownR_below hx (bl_alloc w (.cells #[svV x] 29))
  have hn : ∀ j u, [svV x][j]? = some u → (w.alloc (.cells #[svV x] 29)).cell? ((⟨w.heap.size, 0, none⟩ : Addr).add j) = some u := by
    intro j u hu
    match j, hu with
    | 0, hu =>
      show (w.alloc _).cell? ⟨w.heap.size, 0, none⟩ = _
      rw [World.cell?_alloc_at _ _ _ _ rfl]; exact hu
    | j + 1, hu => simp at hu
  obtain ⟨v', w', g1, g2, g3, _⟩ := run_append_own (P := Tryz.prog) (w := w.alloc (.cells #[svV x] 29)) B 22 T 29 i0 (.slice none 0 0) 1 24 Tryz.underlying22 hinf hz0 hz1 hz2 rfl (by decide) v xs.length _ h'.out ⟨w.heap.size, 0, none⟩ 1 cq [svV x] rfl hn (by intro u hu; rw [List.mem_singleton] at hu; rw [hu]; rfl) (by simp only [maxLen]; omega) (by omega) (by rw [size_alloc]; omega)
  refine ⟨v', w', g1, ⟨?_, fun y hy => ?_⟩, g3⟩
  · rw [List.length_append, List.map_append]; exact g2
  · rcases List.mem_append.1 hy with hy | hy
    · exact ownR_kept (h'.own y hy) g3 (rws_ne h'.out (h'.own y hy))
    · rw [List.mem_singleton] at hy
      subst hy
      exact ownR_kept hx' g3 (rws_ne h'.out hx')
theorem Rws.keep {w0 W W' : World} {v : Value} {xs : List SV} (hb : Below w0.heap.size w0 W) (ho : Rws W w0.heap.size v xs) (hg : W.grownBy W' v.ownBlock) : Below w0.heap.size w0 W' :=
  hb.grown hg hb.size (fun k hk => (World.ownsRow.lt ho.out k hk).1)
theorem Rws.cell {w : World} {B n c : Nat} {q : Option Addr} {xs : List SV} (h : Rws w B (.slice q n c) xs) {i : Nat} (hi : i < xs.length) : ∃ g, q = some ⟨g, 0, none⟩ ∧ w.cell? ⟨g, i, none⟩ = some (svV (gs xs i)) := by
  have hv : (xs.map svV)[i]? = some (svV (gs xs i)) := by rw [List.getElem?_map, List.getElem?_eq_getElem hi, gs_get hi]; rfl
  rcases h.out.2 with ⟨_, hn⟩ | ⟨g, cap, cur, e2, _⟩
  · omega
  · simp only [Value.slice.injEq] at e2
    obtain ⟨rfl, _, _⟩ := e2
    have := World.ownsRow.cells h.out (g := g) rfl i _ hv
    have e3 : (⟨g, 0, none⟩ : Addr).add i = ⟨g, i, none⟩ := by simp [Addr.add]; intro h; omega
    rw [e3] at this
    exact ⟨g, rfl, this⟩
theorem Rws.sls {w : World} {B n c : Nat} {q : Option Addr} {xs : List SV} (h : Rws w B (.slice q n c) xs) : SlS w q xs := by
  refine ⟨fun x hx => ?_, ?_⟩
  · obtain ⟨p, c', e, _, _, _, hs, _⟩ := ownR_form (h.own x hx)
    simp only [svV, Value.slice.injEq] at e
    rw [e.1]; exact hs
  · by_cases h0 : xs = []
    · exact .inl h0
    · right
      have hp : 0 < xs.length := by cases xs with
        | nil => exact absurd rfl h0
        | cons => simp
      obtain ⟨g, e, _⟩ := h.cell hp
      refine ⟨g, 0, e, fun i hi => ?_⟩
      obtain ⟨g2, e2, hc⟩ := h.cell hi
      rw [e] at e2
      simp only [Option.some.injEq, Addr.mk.injEq, and_true] at e2
      rw [Nat.zero_add, e2]; exact hc
theorem Rws.nils {w : World} {B : Nat} {v : Value} {xs : List SV} (h : Rws w B v xs) : ∀ i, i < xs.length → (gs xs i).1 = none → (gs xs i).2.1 = 0 := by
  intro i hi e
  have := h.own (gs xs i) (by rw [gs_get hi]; exact List.getElem_mem _)
  obtain ⟨p, c', e2, _, _, h4, _⟩ := ownR_form this
  simp only [svV, Value.slice.injEq] at e2
  rw [e2.2.2]; exact h4 (by rw [← e2.1]; exact e)
/-- one row turned. -/
theorem Rws.turn {w : World} {B g n c i : Nat} {xs : List SV} (x : SV) (h : Rws w B (.slice (some ⟨g, 0, none⟩) n c) xs) (_hi : i < xs.length) (hx : OwnR w B (svV x) x.2.2) : Rws (w.setCell ⟨g, i, none⟩ (svV x)) B (.slice (some ⟨g, 0, none⟩) n c) (xs.set i x) := by
  have hne : ∀ u l, OwnR w B u l → u.ownBlock ≠ some g := by
    intro u l ho
    rcases rws_ne h.out ho with e | e
    · rw [e]; intro e; cases e
    · exact e
  have hn : n = xs.length := by
    rcases h.out.2 with ⟨e, _⟩ | ⟨g', cap, cur, e, _⟩
    · simp at e
    · simp only [Value.slice.injEq] at e; exact e.2.1
  refine ⟨?_, fun y hy => ?_⟩
  · have := h.out
    rw [hn] at this
    have := (this.stored i (svV x)).1
    rw [List.length_set, List.map_set]
    rw [← hn] at this ⊢
    exact this
  · rcases List.mem_or_eq_of_mem_set hy with hy | hy
    · exact ownsRow_setCell_other (a := ⟨g, i, none⟩) (h.own y hy) (hne _ _ (h.own y hy)) _
    · subst hy
      exact ownsRow_setCell_other (a := ⟨g, i, none⟩) hx (hne _ _ hx) _
theorem own_litR (w : World) (B : Nat) (l : List R) (k : Nat) (cs : Array Value) (hl : l.length = k) (hcs : cs = (l.flatMap encR).toArray) (hB : B ≤ w.heap.size) (hk : k ≤ 1000) : OwnR (w.alloc (.cells cs 28)) B (.slice (some ⟨w.heap.size, 0, none⟩) k k) l := by
  subst hl hcs
  refine ⟨encs_length l, .inr ⟨w.heap.size, l.length, _, rfl, hB, (MapKept.heap_alloc w _).1, Nat.le_refl _, by simp only [maxLen]; omega, ?_, ?_⟩⟩
  · rw [List.size_toArray, encs_length]
  · show (l.flatMap encR).take _ = _
    rw [List.take_of_length_le (by rw [encs_length]; omega)]

/-- so many rows so far, these. -/
def RS (w wr : World) (n : Nat) (v : Value) (S : List (List R)) : Prop :=
  ∃ q c xs, v = .slice q n c ∧ n ≤ c ∧ n = xs.length ∧ Rws wr w.heap.size (.slice q n c) xs ∧ rowsV xs = S ∧ Below w.heap.size w wr
theorem RS.nil (w wr : World) (hb : Below w.heap.size w wr) : RS w wr 0 (.slice none 0 0) [] := ⟨none, 0, [], rfl, Nat.le_refl _, rfl, Rws.nil _ _, rfl, hb⟩
theorem RS.below {w wr wx : World} {n : Nat} {v : Value} {S : List (List R)} (h : RS w wr n v S) (hb : Below wr.heap.size wr wx) : RS w wx n v S := by
  obtain ⟨q, c, xs, h1, h2, h3, h4, h5, h6⟩ := h
  exact ⟨q, c, xs, h1, h2, h3, h4.below hb, h5, bl_trans h6 hb⟩
theorem RS.bl {w wr : World} {n : Nat} {v : Value} {S : List (List R)} (h : RS w wr n v S) : Below w.heap.size w wr := by
  obtain ⟨q, c, xs, h1, h2, h3, h4, h5, h6⟩ := h
  exact h6
theorem rs_run {w wr : World} {n cq : Nat} {v : Value} {S : List (List R)} (T : TypeId) (q : Option Addr) (k c : Nat) (l : List R) (h : RS w wr n v S) (hk : k = l.length) (hu : OwnR wr w.heap.size (.slice q k c) l) (hn : n ≤ 10000) :
    ∃ v' w', (Builtin.append_ #[22, 22] T #[v, .slice (some ⟨wr.heap.size, 0, none⟩) 1 cq]).run Tryz.prog (wr.alloc (.cells #[.slice q k c] 29)) = .ok v' w' ∧ RS w w' (n + 1) v' (S ++ [l]) := by
  subst hk
  obtain ⟨q2, c2, xs, rfl, h2, rfl, h4, rfl, h6⟩ := h
  obtain ⟨v', w', g1, g2, g3⟩ := run_rws (cq := cq) T (q, c, l) h4 hu (by omega) h6.size
  obtain ⟨q3, c3, rfl, hc3⟩ := g2.form
  rw [List.length_append] at g1 g2 hc3
  exact ⟨_, w', g1, q3, c3, xs ++ [(q, c, l)], rfl, hc3, by simp, g2, by simp [rowsV], Rws.keep (h6.alloc h6.size _) (h4.below (bl_alloc _ _)) g3⟩
theorem flat_rows (xs : List SV) : flat xs = (rowsV xs).flatten := by
  unfold flat rowsV
  rw [List.flatMap_def]
/-- what parts.Of tells, by a key. -/
def OfP (S : List (List R)) (m : Nat) (wr : World) (e : Ending) (w' : World) : Prop :=
  Below wr.heap.size wr w' ∧ ((61 ≤ m ∧ e = .returned (.tuple #[.slice none 0 0, .int .i64 3])) ∨ (m ≤ 60 ∧ ∃ po co ys, e = .returned (.tuple #[.slice po m co, .int .i64 0]) ∧ m ≤ co ∧ m = ys.length ∧ Parts S (rowsV ys) ∧ SlS w' po ys))
theorem rs_of {w wr : World} {n m : Nat} {v : Value} {S : List (List R)} {key : Int → Nat} (h : RS w wr n v S) (hk : Key S key m) (hn : n ≤ 2000) (hf : S.flatten.length ≤ 10000) :
    Calls Tryz.prog 4 #[v] wr (OfP S m wr) := by
  obtain ⟨q2, c2, xs, rfl, h2, h3, h4, rfl, h6⟩ := h
  refine (partsOf_any q2 c2 n xs wr h3 h2 h4.sls (by omega) (by rw [flat_rows]; exact hf)).mono ?_
  rintro e w' ⟨hb, ⟨rfl, hm⟩ | ⟨po, nn, co, ys, vs, rfl, g1, g2, g3, g4, g5, _⟩⟩
  · exact ⟨hb, .inl ⟨hk.more hm, rfl⟩⟩
  · have hl := hk.parts g4
    rw [rowsV_length] at hl
    obtain rfl : nn = m := by omega
    exact ⟨hb, .inr ⟨g3, po, co, ys, rfl, g2, g1, g4, g5⟩⟩
/-- a row of slices just made. -/
theorem rs_lit {wr : World} (xs : List SV) (cs : Array Value) (hcs : cs = (xs.map svV).toArray) (h : ∀ x ∈ xs, SlR wr x.1 x.2.2) : SlS (wr.alloc (.cells cs 29)) (some ⟨wr.heap.size, 0, none⟩) xs := sls_new h hcs
end Go.Proofs.YtildfjlaieaadaaGreat
