/- Rows of numbers of a call's own; a list handed in with marks behind its end, and that it is still as it was. -/
import Derived.Test.YtnedbeomflllcaaPq
import Derived.Deep.AppendLies
import Derived.Lib.SmallJoins
import Derived.Maps.AppendAt
import Derived.Deep.Onto
import Derived.Deep.LoopGhost
import Derived.Shelf.Abstract
import Derived.Laws.AppendOwnNone
import Derived.Deep.MidRow
namespace Go.Proofs.Ytnedbeomflllcaa
open Go.RowKit Tnd


def gd (l : List Nat) (i : Nat) : Nat := l.getD i 0
/-- a slice of numbers of one kind: its cells. -/
def Sl (w : World) (k : IntKind) (p : Option Addr) (l : List Nat) : Prop :=
  l = [] ∨ ∃ b off, p = some ⟨b, off, none⟩ ∧ ∀ i, i < l.length → w.cell? ⟨b, off + i, none⟩ = some (.int k (gd l i : Nat))
/-- a row of numbers in a block of the call's own. -/
def Own (w : World) (B : Nat) (e : TypeId) (k : IntKind) (v : Value) (N : List Nat) : Prop :=
  w.ownsRow B e 1 v N.length (N.map fun d => Value.int k (d : Nat))
theorem own_nil (w : World) (B : Nat) (e : TypeId) (k : IntKind) : Own w B e k (.slice none 0 0) [] := World.ownsRow_nil w B e 1
theorem own_cell {w : World} {B : Nat} {e : TypeId} {k : IntKind} {g n cap : Nat} {N : List Nat} (h : Own w B e k (.slice (some ⟨g, 0, none⟩) n cap) N) (hn : N.length = n) (i : Nat) (hi : i < n) :
    w.cell? ⟨g, i, none⟩ = some (.int k (gd N i : Nat)) := by
  unfold Own at h
  rw [hn] at h
  rw [h.cellAt i (by omega)]
  simp [gd, List.getD_eq_getElem?_getD, List.getElem?_eq_getElem (show i < N.length by omega)]
theorem own_kept {w w' : World} {B : Nat} {e : TypeId} {k : IntKind} {v : Value} {N : List Nat} {r : Option Nat} (h : Own w B e k v N) (hg : w.grownBy w' r) (hne : v.ownBlock = none ∨ v.ownBlock ≠ r) : Own w' B e k v N :=
  World.ownsRow.kept h hg hne
theorem own_form {w : World} {B : Nat} {e : TypeId} {k : IntKind} {s : Value} {l : List Nat} (h : Own w B e k s l) :
    ∃ p c, s = .slice p l.length c ∧ l.length ≤ c ∧ c ≤ 9223372036854775807 ∧ (p = none → c = 0) ∧ Sl w k p l ∧ (∀ g, s.ownBlock = some g → p = some ⟨g, 0, none⟩ ∧ B ≤ g) := by
  rcases h.2 with ⟨rfl, hn⟩ | ⟨g, cap, cur, rfl, hb, hg, hnc, hcm, hcs, htake⟩
  · have hl : l = [] := List.eq_nil_of_length_eq_zero hn
    subst hl
    exact ⟨none, 0, rfl, by simp, by omega, fun _ => rfl, .inl rfl, fun g hg => by simp [Value.ownBlock] at hg⟩
  · refine ⟨some ⟨g, 0, none⟩, cap, rfl, hnc, by simpa [maxLen] using hcm, by simp, .inr ⟨g, 0, rfl, fun i hi => ?_⟩, fun g' hg' => ?_⟩
    · rw [Nat.zero_add]; exact own_cell h rfl i hi
    · simp only [Value.ownBlock, Option.some.injEq] at hg'
      subst hg'
      exact ⟨rfl, hb⟩
theorem own_ne {w : World} {B : Nat} {e : TypeId} {k : IntKind} {s : Value} {l : List Nat} (h : Own w B e k s l) {nb : Nat} {c : Array Value} {T : TypeId} {fz : Nat × Nat} (hv : w.heap[nb]? = some (.cells c T fz)) (hT : T ≠ e) : s.ownBlock ≠ some nb := by
  intro hg
  rcases h.2 with ⟨rfl, _⟩ | ⟨g, cap, cur, rfl, _, hh, _⟩
  · simp [Value.ownBlock] at hg
  · simp only [Value.ownBlock, Option.some.injEq] at hg
    subst hg
    rw [hh] at hv
    simp only [Option.some.injEq, Obj.cells.injEq] at hv
    exact hT hv.2.1.symm
theorem own_appended {w' : World} {B : Nat} {e : TypeId} {k : IntKind} {v' : Value} {l : List Nat} {n x : Nat} (hn : l.length = n) (h : w'.ownsRow B e 1 v' (n + 1) (l.map (fun d => Value.int k (d : Nat)) ++ [.int k (x : Nat)])) : Own w' B e k v' (l ++ [x]) := by
  unfold Own
  rw [List.length_append, hn, List.map_append]
  exact h
theorem own_below {w w' : World} {B : Nat} {e : TypeId} {k : IntKind} {v : Value} {N : List Nat} (h : Own w B e k v N) (hb : Below w.heap.size w w') : Own w' B e k v N := by
  obtain ⟨h1, h2⟩ := h
  refine ⟨h1, ?_⟩
  rcases h2 with h2 | ⟨g, cap, cur, rfl, hg, hh, r⟩
  · exact .inl h2
  · exact .inr ⟨g, cap, cur, rfl, hg, by rw [hb.block g (lt_of_block hh)]; exact hh, r⟩
theorem own_down {w : World} {B B' : Nat} {e : TypeId} {k : IntKind} {v : Value} {N : List Nat} (h : Own w B e k v N) (hB : B' ≤ B) : Own w B' e k v N := World.ownsRow.mono h hB

theorem bl_trans {a b c : World} (h1 : Below a.heap.size a b) (h2 : Below b.heap.size b c) : Below a.heap.size a c := h1.trans (h2.mono h1.size)
theorem bl_alloc (a : World) (o : Obj) : Below a.heap.size a (a.alloc o) := (Below.refl _ _).alloc (Nat.le_refl _) _
theorem bl_drew (a : World) : Below a.heap.size a a.drew := (Below.refl _ _).drew

/-- A block of two cells. -/
theorem two_cell0 {w : World} {b : Nat} {u v : Value} {t : TypeId} (h : w.heap[b]? = some (.cells #[u, v] t (0, 0))) : w.cell? ⟨b, 0, none⟩ = some u := by simp [World.cell?, h]
theorem two_cell1 {w : World} {b : Nat} {u v : Value} {t : TypeId} (h : w.heap[b]? = some (.cells #[u, v] t (0, 0))) : w.cell? ⟨b, 1, none⟩ = some v := by simp [World.cell?, h]
theorem two_free {w : World} {b : Nat} {u v : Value} {t : TypeId} (h : w.heap[b]? = some (.cells #[u, v] t (0, 0))) (i : Nat) : w.frozen? ⟨b, i, none⟩ = false := by simp [World.frozen?, h]
theorem two_set0 {w : World} {b : Nat} {u v x : Value} {t : TypeId} (h : w.heap[b]? = some (.cells #[u, v] t (0, 0))) : (w.setCell ⟨b, 0, none⟩ x).heap[b]? = some (.cells #[x, v] t (0, 0)) := by
  have hlt := lt_of_block h
  have h' : w.heap[b] = .cells #[u, v] t (0, 0) := by simpa [Array.getElem?_eq_getElem hlt] using h
  show (w.heap.modify b _)[b]? = _
  rw [Array.getElem?_eq_getElem (by simpa using hlt), Array.getElem_modify_self, h']
  rfl
theorem two_set1 {w : World} {b : Nat} {u v x : Value} {t : TypeId} (h : w.heap[b]? = some (.cells #[u, v] t (0, 0))) : (w.setCell ⟨b, 1, none⟩ x).heap[b]? = some (.cells #[u, x] t (0, 0)) := by
  have hlt := lt_of_block h
  have h' : w.heap[b] = .cells #[u, v] t (0, 0) := by simpa [Array.getElem?_eq_getElem hlt] using h
  show (w.heap.modify b _)[b]? = _
  rw [Array.getElem?_eq_getElem (by simpa using hlt), Array.getElem_modify_self, h']
  rfl

theorem info_int : (Try.prog.info? 3).map (fun i => (i.zero, i.size, i.bytes)) = some (some (.int .i64 0), 1, 8) := by kernel_rfl
def gi (l : List Int) (i : Nat) : Int := l.getD i 0
/-- a slice of ints: its cells. -/
def SlI (w : World) (p : Option Addr) (l : List Int) : Prop :=
  l = [] ∨ ∃ b off, p = some ⟨b, off, none⟩ ∧ ∀ i, i < l.length → w.cell? ⟨b, off + i, none⟩ = some (.int .i64 (gi l i))
def ints (l : List Nat) : List Int := l.map Int.ofNat
theorem ints_length (l : List Nat) : (ints l).length = l.length := by simp [ints]
theorem gi_ints (l : List Nat) (i : Nat) : gi (ints l) i = (gd l i : Nat) := by
  unfold gi gd ints
  rw [List.getD_eq_getElem?_getD, List.getD_eq_getElem?_getD, List.getElem?_map]
  cases l[i]? <;> rfl
theorem ints_inj {a b : List Nat} (h : ints a = ints b) : a = b := by
  unfold ints at h
  exact List.map_inj_right (fun x y h => Int.ofNat.inj h) |>.1 h
theorem sl_ints {w : World} {p : Option Addr} {l : List Nat} (h : Sl w .i64 p l) : SlI w p (ints l) := by
  rcases h with rfl | ⟨b, off, h1, h2⟩
  · exact .inl rfl
  · refine .inr ⟨b, off, h1, fun i hi => ?_⟩
    rw [ints_length] at hi
    rw [gi_ints]; exact h2 i hi
theorem SlI.drewN {w : World} {p : Option Addr} {l : List Int} (h : SlI w p l) (n : Nat) : SlI (w.drewN n) p l := h
theorem ext_gi {l m : List Int} (hl : l.length = m.length) (h : ∀ j, j < l.length → gi l j = gi m j) : l = m := by
  apply List.ext_getElem hl
  intro i h1 h2
  have := h i h1
  unfold gi at this
  rw [List.getD_eq_getElem?_getD, List.getD_eq_getElem?_getD, List.getElem?_eq_getElem h1, List.getElem?_eq_getElem h2] at this
  exact this

theorem SlI.below {w w' : World} {p : Option Addr} {l : List Int} (h : SlI w p l) (hb : Below w.heap.size w w') : SlI w' p l := by
  rcases h with h | ⟨b, off, h1, h2⟩
  · exact .inl h
  · exact .inr ⟨b, off, h1, fun i hi => by rw [hb.cell (World.block_lt_of_cell? w _ (h2 i hi))]; exact h2 i hi⟩
theorem bl_drewN (a : World) (n : Nat) : Below a.heap.size a (a.drewN n) := Joins.below_draws _ _ _
theorem own_apart {w w2 : World} {B B2 : Nat} {e e2 : TypeId} {k k2 : IntKind} {v v2 : Value} {N M : List Nat} (h1 : Own w B e k v N) (h2 : Own w2 B2 e2 k2 v2 M) (hB : w.heap.size ≤ B2) : v.ownBlock = none ∨ v.ownBlock ≠ v2.ownBlock := by
  rcases hv : v.ownBlock with _ | g
  · exact .inl rfl
  · right
    intro h
    have hg := (h1.lt g hv).2
    obtain ⟨_, _, _, _, _, _, _, h6⟩ := own_form h2
    have := (h6 g h.symm).2
    omega
theorem str_back (s : ByteArray) : (⟨s.data.toList.toArray⟩ : ByteArray) = s := by cases s; simp
theorem both_data (s t : ByteArray) : (s ++ t).data.toList = s.data.toList ++ t.data.toList := by rw [ByteArray.data_append, Array.toList_append]
theorem wpList_append_run {P : Program} {w w' : World} {ops : Array Oper} {rest : List Oper} {o : Oper} {a : Act} {Q : Exit → Act → World → Prop} (hw : Region.wanted o (yielded ops a.tmps) = true) (s x : Operand) (t : TypeId)
    (ho : o.op = .call { callee := .builtin .append, args := #[s, x], argTypes := #[t, t] }) (v u v' : Value) (hs : a.eval s = v) (hx : a.eval x = u)
    (hrun : (Builtin.append_ #[t, t] o.type #[v, u]).run P w = .ok v' w') (h : wpList P ops Q rest (a.put o.dst v') w') : wpList P ops Q (o :: rest) a w := by
  refine wpList_step fun K hK => ?_
  simp only [hw, if_true]
  unfold Oper.wp
  simp [execOp, ho, resolve, invoke, builtin, hs, hx, hrun, Result.andThen]
  exact hK _ _ h



def OwnI (w : World) (B : Nat) (v : Value) (l : List Int) : Prop := w.ownsRow B 3 1 v l.length (l.map (Value.int .i64))
theorem ownI_nil (w : World) (B : Nat) : OwnI w B (.slice none 0 0) [] := World.ownsRow_nil w B 3 1
theorem ownI_cell {w : World} {B : Nat} {g n cap : Nat} {l : List Int} (h : OwnI w B (.slice (some ⟨g, 0, none⟩) n cap) l) (hn : l.length = n) (i : Nat) (hi : i < n) :
    w.cell? ⟨g, i, none⟩ = some (.int .i64 (gi l i)) := by
  unfold OwnI at h
  rw [hn] at h
  rw [h.cellAt i (by omega)]
  unfold gi
  rw [List.getElem?_map, List.getD_eq_getElem?_getD, List.getElem?_eq_getElem (by omega)]; rfl
theorem ownI_below {w w' : World} {B : Nat} {v : Value} {l : List Int} (h : OwnI w B v l) (hb : Below w.heap.size w w') : OwnI w' B v l := by
  obtain ⟨h1, h2⟩ := h
  refine ⟨h1, ?_⟩
  rcases h2 with h2 | ⟨g, cap, cur, rfl, hg, hh, r⟩
  · exact .inl h2
  · exact .inr ⟨g, cap, cur, rfl, hg, by rw [hb.block g (lt_of_block hh)]; exact hh, r⟩
theorem ownI_form {w : World} {B : Nat} {v : Value} {l : List Int} (h : OwnI w B v l) : ∃ p c, v = .slice p l.length c ∧ l.length ≤ c ∧ c ≤ 9223372036854775807 ∧ (l ≠ [] → ∃ g, p = some ⟨g, 0, none⟩ ∧ B ≤ g) := by
  rcases h.2 with ⟨rfl, hn⟩ | ⟨g, cap, cur, rfl, hb, hg, hnc, hcm, hcs, htake⟩
  · have hl : l = [] := List.eq_nil_of_length_eq_zero hn
    subst hl
    exact ⟨none, 0, rfl, by simp, by omega, fun h => absurd rfl h⟩
  · exact ⟨_, _, rfl, hnc, by simpa [maxLen] using hcm, fun _ => ⟨g, rfl, hb⟩⟩

def marks (k : Nat) : List Int := (List.range k).map fun (i : Nat) => 8000024 + (i : Int)
theorem marks_succ (k : Nat) : marks (k + 1) = marks k ++ [8000024 + (k : Int)] := by unfold marks; rw [List.range_succ, List.map_append]; rfl
theorem marks_length (k : Nat) : (marks k).length = k := by simp [marks]
theorem gi_front {l m : List Int} {i : Nat} (h : i < l.length) : gi (l ++ m) i = gi l i := by
  unfold gi
  rw [List.getD_eq_getElem?_getD, List.getD_eq_getElem?_getD, List.getElem?_append_left h]
theorem gi_marks {l : List Int} {k i : Nat} (h1 : l.length ≤ i) (h2 : i < l.length + k) : gi (l ++ marks k) i = 8000024 + ((i : Int) - l.length) := by
  unfold gi
  rw [List.getD_eq_getElem?_getD, List.getElem?_append_right h1]
  unfold marks
  rw [List.getElem?_map, List.getElem?_range (by omega)]
  simp; omega

theorem newsI_at {w : World} {b off : Nat} {a : List Int} (h : ∀ i, i < a.length → w.cell? ⟨b, off + i, none⟩ = some (.int .i64 (gi a i))) : ∀ j u, (a.map (Value.int .i64))[j]? = some u → w.cell? ((⟨b, off, none⟩ : Addr).add j) = some u := by
  intro j u hu
  rw [List.getElem?_map] at hu
  obtain ⟨d, hd, rfl⟩ := Option.map_eq_some_iff.1 hu
  have hj := (List.getElem?_eq_some_iff.1 hd).1
  have e2 : (⟨b, off, none⟩ : Addr).add j = ⟨b, off + j, none⟩ := by simp [Addr.add]
  rw [e2, h j hj]
  unfold gi
  rw [List.getD_eq_getElem?_getD, hd]; rfl
theorem run_joinI {w : World} {B : Nat} {v : Value} {N : List Int} {q : Option Addr} {cq : Nat} {a : List Int} (T : TypeId) (ho : OwnI w B v N) (hs : SlI w q a) (hq : q = none → cq = 0) (hl : N.length + a.length ≤ 1000000) (hB : B ≤ w.heap.size) :
    ∃ v' w', (Builtin.append_ #[22, 22] T #[v, .slice q a.length cq]).run Try.prog w = .ok v' w' ∧ OwnI w' B v' (N ++ a) ∧ w.grownBy w' v.ownBlock := by
  obtain ⟨i0, hinf, hz0, hz1, hz2⟩ := info_parts info_int
  unfold OwnI at ho
  cases q with
  | none =>
    have := hq rfl
    subst this
    have ha : a = [] := by
      rcases hs with h | ⟨b, off, h, _⟩
      · exact h
      · cases h
    subst ha
    have hrun := run_append_owned_none (P := Try.prog) (w := w) B 22 T 3 i0 1 Try.underlying22 hinf v N.length _ ho
    refine ⟨v, w, hrun, ?_, World.grownBy.refl _ _⟩
    unfold OwnI
    rw [List.append_nil]; exact ho
  | some ad =>
    have hn : ∀ j u, (a.map (Value.int .i64))[j]? = some u → w.cell? (ad.add j) = some u := by
      rcases hs with h | ⟨b, off, h, hc⟩
      · subst h; intro j u hu; simp at hu
      · simp only [Option.some.injEq] at h
        subst h
        exact newsI_at hc
    obtain ⟨v', w', h1, h2, h3, _⟩ := run_append_own (P := Try.prog) (w := w) B 22 T 3 i0 (.int .i64 0) 1 8 Try.underlying22 hinf hz0 hz1 hz2 rfl (by decide) v N.length _ ho ad a.length cq (a.map (Value.int .i64)) (by simp) hn (by intro u hu; rw [List.mem_map] at hu; obtain ⟨d, _, rfl⟩ := hu; rfl) (by simp only [maxLen]; omega) (by omega) hB
    refine ⟨v', w', h1, ?_, h3⟩
    unfold OwnI
    rw [List.length_append, List.map_append]
    exact h2

def LentPost (n : Nat) (l : List Int) (w : World) (e : Ending) (w' : World) : Prop :=
  ∃ g cap, e = .returned (.slice (some ⟨g, 0, none⟩) n cap) ∧ n + 12 ≤ cap ∧ cap ≤ 9223372036854775807 ∧ OwnI w' w.heap.size (.slice (some ⟨g, 0, none⟩) (n + 12) cap) (l ++ marks 12) ∧ Below w.heap.size w w'

theorem lent_sl {w : World} {B : Nat} {g n cap : Nat} {l m : List Int} (h : OwnI w B (.slice (some ⟨g, 0, none⟩) (n + 12) cap) (l ++ m)) (hn : l.length = n) (hm : m.length = 12) : SlI w (some ⟨g, 0, none⟩) l := by
  refine .inr ⟨g, 0, rfl, fun i hi => ?_⟩
  rw [Nat.zero_add, ownI_cell h (by rw [List.length_append, hn, hm]) i (by omega), gi_front hi]


end Go.Proofs.Ytnedbeomflllcaa
