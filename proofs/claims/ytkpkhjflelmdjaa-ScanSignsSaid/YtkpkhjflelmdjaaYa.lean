/- Rows of numbers of a call's own; a list handed in with marks behind its end, and that it is still as it was. -/
import Derived.Test.YtkpkhjflelmdjaaPq
import Derived.Deep.AppendLies
import Derived.Lib.SmallJoins
import Derived.Maps.AppendAt
import Derived.Deep.Onto
import Derived.Deep.LoopGhost
import Derived.Shelf.Abstract
import Derived.Laws.AppendOwnNone
import Derived.Deep.MidRow
namespace Go.Proofs.Ytkpkhjflelmdjaa
open Go.RowKit Tnd


def gd (l : List Nat) (i : Nat) : Nat := l.getD i 0
/-- a slice of numbers of one kind: its cells. -/
def Sl (w : World) (k : IntKind) (p : Option Addr) (l : List Nat) : Prop :=
  l = [] ∨ ∃ b off, p = some ⟨b, off, none⟩ ∧ ∀ i, i < l.length → w.cell? ⟨b, off + i, none⟩ = some (.int k (gd l i : Nat))
/-- a row of numbers in a block of the call's own. -/
def Own (w : World) (B : Nat) (e : TypeId) (k : IntKind) (v : Value) (N : List Nat) : Prop :=
  w.ownsRow B e 1 v N.length (N.map fun d => Value.int k (d : Nat))
theorem own_nil (w : World) (B : Nat) (e : TypeId) (k : IntKind) : Own w B e k (.slice none 0 0) [] := World.ownsRow_nil w B e 1
theorem own_cell {w : World} {B : Nat} {e : TypeId} {k : IntKind} {g n cap : Nat} {N : List Nat} (h : Own w B e k (.slice (some ⟨g, 0, none⟩) n cap) N) (hn : N.length = n) (i : Nat) (hi : i < n) :
    w.cell? ⟨g, i, none⟩ = some (.int k (gd N i : Nat)) := by
  unfold Own at h
  rw [hn] at h
  rw [h.cellAt i (by omega)]
  simp [gd, List.getD_eq_getElem?_getD, List.getElem?_eq_getElem (show i < N.length by omega)]
theorem own_kept {w w' : World} {B : Nat} {e : TypeId} {k : IntKind} {v : Value} {N : List Nat} {r : Option Nat} (h : Own w B e k v N) (hg : w.grownBy w' r) (hne : v.ownBlock = none ∨ v.ownBlock ≠ r) : Own w' B e k v N :=
  World.ownsRow.kept h hg hne
theorem own_form {w : World} {B : Nat} {e : TypeId} {k : IntKind} {s : Value} {l : List Nat} (h : Own w B e k s l) :
    ∃ p c, s = .slice p l.length c ∧ l.length ≤ c ∧ c ≤ 9223372036854775807 ∧ (p = none → c = 0) ∧ Sl w k p l ∧ (∀ g, s.ownBlock = some g → p = some ⟨g, 0, none⟩ ∧ B ≤ g) := by
  rcases h.2 with ⟨rfl, hn⟩ | ⟨g, cap, cur, rfl, hb, hg, hnc, hcm, hcs, htake⟩
  · have hl : l = [] := List.eq_nil_of_length_eq_zero hn
    subst hl
    exact ⟨none, 0, rfl, by simp, by omega, fun _ => rfl, .inl rfl, fun g hg => by simp [Value.ownBlock] at hg⟩
  · refine ⟨some ⟨g, 0, none⟩, cap, rfl, hnc, by simpa [maxLen] using hcm, by simp, .inr ⟨g, 0, rfl, fun i hi => ?_⟩, fun g' hg' => ?_⟩
    · rw [Nat.zero_add]; exact own_cell h rfl i hi
    · simp only [Value.ownBlock, Option.some.injEq] at hg'
      subst hg'
      exact ⟨rfl, hb⟩
theorem own_ne {w : World} {B : Nat} {e : TypeId} {k : IntKind} {s : Value} {l : List Nat} (h : Own w B e k s l) {nb : Nat} {c : Array Value} {T : TypeId} {fz : Nat × Nat} (hv : w.heap[nb]? = some (.cells c T fz)) (hT : T ≠ e) : s.ownBlock ≠ some nb := by
  intro hg
  rcases h.2 with ⟨rfl, _⟩ | ⟨g, cap, cur, rfl, _, hh, _⟩
  · simp [Value.ownBlock] at hg
  · simp only [Value.ownBlock, Option.some.injEq] at hg
    subst hg
    rw [hh] at hv
    simp only [Option.some.injEq, Obj.cells.injEq] at hv
    exact hT hv.2.1.symm
theorem own_appended {w' : World} {B : Nat} {e : TypeId} {k : IntKind} {v' : Value} {l : List Nat} {n x : Nat} (hn : l.length = n) (h : w'.ownsRow B e 1 v' (n + 1) (l.map (fun d => Value.int k (d : Nat)) ++ [.int k (x : Nat)])) : Own w' B e k v' (l ++ [x]) := by
  unfold Own
  rw [List.length_append, hn, List.map_append]
  exact h
theorem own_below {w w' : World} {B : Nat} {e : TypeId} {k : IntKind} {v : Value} {N : List Nat} (h : Own w B e k v N) (hb : Below w.heap.size w w') : Own w' B e k v N := by
  obtain ⟨h1, h2⟩ := h
  refine ⟨h1, ?_⟩
  rcases h2 with h2 | ⟨g, cap, cur, rfl, hg, hh, r⟩
  · exact .inl h2
  · exact .inr ⟨g, cap, cur, rfl, hg, by rw [hb.block g (lt_of_block hh)]; exact hh, r⟩
theorem own_down {w : World} {B B' : Nat} {e : TypeId} {k : IntKind} {v : Value} {N : List Nat} (h : Own w B e k v N) (hB : B' ≤ B) : Own w B' e k v N := World.ownsRow.mono h hB

theorem bl_trans {a b c : World} (h1 : Below a.heap.size a b) (h2 : Below b.heap.size b c) : Below a.heap.size a c := h1.trans (h2.mono h1.size)
theorem bl_alloc (a : World) (o : Obj) : Below a.heap.size a (a.alloc o) := (Below.refl _ _).alloc (Nat.le_refl _) _
theorem bl_drew (a : World) : Below a.heap.size a a.drew := (Below.refl _ _).drew

/-- A block of two cells. -/
theorem two_cell0 {w : World} {b : Nat} {u v : Value} {t : TypeId} (h : w.heap[b]? = some (.cells #[u, v] t (0, 0))) : w.cell? ⟨b, 0, none⟩ = some u := by simp [World.cell?, h]
theorem two_cell1 {w : World} {b : Nat} {u v : Value} {t : TypeId} (h : w.heap[b]? = some (.cells #[u, v] t (0, 0))) : w.cell? ⟨b, 1, none⟩ = some v := by simp [World.cell?, h]
theorem two_free {w : World} {b : Nat} {u v : Value} {t : TypeId} (h : w.heap[b]? = some (.cells #[u, v] t (0, 0))) (i : Nat) : w.frozen? ⟨b, i, none⟩ = false := by simp [World.frozen?, h]
theorem two_set0 {w : World} {b : Nat} {u v x : Value} {t : TypeId} (h : w.heap[b]? = some (.cells #[u, v] t (0, 0))) : (w.setCell ⟨b, 0, none⟩ x).heap[b]? = some (.cells #[x, v] t (0, 0)) := by
  have hlt := lt_of_block h
  have h' : w.heap[b] = .cells #[u, v] t (0, 0) := by simpa [Array.getElem?_eq_getElem hlt] using h
  show (w.heap.modify b _)[b]? = _
  rw [Array.getElem?_eq_getElem (by simpa using hlt), Array.getElem_modify_self, h']
  rfl
theorem two_set1 {w : World} {b : Nat} {u v x : Value} {t : TypeId} (h : w.heap[b]? = some (.cells #[u, v] t (0, 0))) : (w.setCell ⟨b, 1, none⟩ x).heap[b]? = some (.cells #[u, x] t (0, 0)) := by
  have hlt := lt_of_block h
  have h' : w.heap[b] = .cells #[u, v] t (0, 0) := by simpa [Array.getElem?_eq_getElem hlt] using h
  show (w.heap.modify b _)[b]? = _
  rw [Array.getElem?_eq_getElem (by simpa using hlt), Array.getElem_modify_self, h']
  rfl

theorem info_int : (Try.prog.info? 3).map (fun i => (i.zero, i.size, i.bytes)) = some (some (.int .i64 0), 1, 8) := by kernel_rfl
def gi (l : List Int) (i : Nat) : Int := l.getD i 0
/-- a slice of ints: its cells. -/
def SlI (w : World) (p : Option Addr) (l : List Int) : Prop :=
  l = [] ∨ ∃ b off, p = some ⟨b, off, none⟩ ∧ ∀ i, i < l.length → w.cell? ⟨b, off + i, none⟩ = some (.int .i64 (gi l i))
def ints (l : List Nat) : List Int := l.map Int.ofNat
theorem ints_length (l : List Nat) : (ints l).length = l.length := by simp [ints]
theorem gi_ints (l : List Nat) (i : Nat) : gi (ints l) i = (gd l i : Nat) := by
  unfold gi gd ints
  rw [List.getD_eq_getElem?_getD, List.getD_eq_getElem?_getD, List.getElem?_map]
  cases l[i]? <;> rfl
theorem ints_inj {a b : List Nat} (h : ints a = ints b) : a = b := by
  unfold ints at h
  exact List.map_inj_right (fun x y h => Int.ofNat.inj h) |>.1 h
theorem sl_ints {w : World} {p : Option Addr} {l : List Nat} (h : Sl w .i64 p l) : SlI w p (ints l) := by
  rcases h with rfl | ⟨b, off, h1, h2⟩
  · exact .inl rfl
  · refine .inr ⟨b, off, h1, fun i hi => ?_⟩
    rw [ints_length] at hi
    rw [gi_ints]; exact h2 i hi
theorem SlI.drewN {w : World} {p : Option Addr} {l : List Int} (h : SlI w p l) (n : Nat) : SlI (w.drewN n) p l := h
theorem ext_gi {l m : List Int} (hl : l.length = m.length) (h : ∀ j, j < l.length → gi l j = gi m j) : l = m := by
  apply List.ext_getElem hl
  intro i h1 h2
  have := h i h1
  unfold gi at this
  rw [List.getD_eq_getElem?_getD, List.getD_eq_getElem?_getD, List.getElem?_eq_getElem h1, List.getElem?_eq_getElem h2] at this
  exact this

theorem SlI.below {w w' : World} {p : Option Addr} {l : List Int} (h : SlI w p l) (hb : Below w.heap.size w w') : SlI w' p l := by
  rcases h with h | ⟨b, off, h1, h2⟩
  · exact .inl h
  · exact .inr ⟨b, off, h1, fun i hi => by rw [hb.cell (World.block_lt_of_cell? w _ (h2 i hi))]; exact h2 i hi⟩
theorem bl_drewN (a : World) (n : Nat) : Below a.heap.size a (a.drewN n) := Joins.below_draws _ _ _
theorem own_apart {w w2 : World} {B B2 : Nat} {e e2 : TypeId} {k k2 : IntKind} {v v2 : Value} {N M : List Nat} (h1 : Own w B e k v N) (h2 : Own w2 B2 e2 k2 v2 M) (hB : w.heap.size ≤ B2) : v.ownBlock = none ∨ v.ownBlock ≠ v2.ownBlock := by
  rcases hv : v.ownBlock with _ | g
  · exact .inl rfl
  · right
    intro h
    have hg := (h1.lt g hv).2
    obtain ⟨_, _, _, _, _, _, _, h6⟩ := own_form h2
    have := (h6 g h.symm).2
    omega
theorem str_back (s : ByteArray) : (⟨s.data.toList.toArray⟩ : ByteArray) = s := by cases s; simp
theorem both_data (s t : ByteArray) : (s ++ t).data.toList = s.data.toList ++ t.data.toList := by rw [ByteArray.data_append, Array.toList_append]
theorem wpList_append_run {P : Program} {w w' : World} {ops : Array Oper} {rest : List Oper} {o : Oper} {a : Act} {Q : Exit → Act → World → Prop} (hw : Region.wanted o (yielded ops a.tmps) = true) (s x : Operand) (t : TypeId)
    (ho : o.op = .call { callee := .builtin .append, args := #[s, x], argTypes := #[t, t] }) (v u v' : Value) (hs : a.eval s = v) (hx : a.eval x = u)
    (hrun : (Builtin.append_ #[t, t] o.type #[v, u]).run P w = .ok v' w') (h : wpList P ops Q rest (a.put o.dst v') w') : wpList P ops Q (o :: rest) a w := by
  refine wpList_step fun K hK => ?_
  simp only [hw, if_true]
  unfold Oper.wp
  simp [execOp, ho, resolve, invoke, builtin, hs, hx, hrun, Result.andThen]
  exact hK _ _ h



def OwnI (w : World) (B : Nat) (v : Value) (l : List Int) : Prop := w.ownsRow B 3 1 v l.length (l.map (Value.int .i64))
theorem ownI_nil (w : World) (B : Nat) : OwnI w B (.slice none 0 0) [] := World.ownsRow_nil w B 3 1
theorem ownI_cell {w : World} {B : Nat} {g n cap : Nat} {l : List Int} (h : OwnI w B (.slice (some ⟨g, 0, none⟩) n cap) l) (hn : l.length = n) (i : Nat) (hi : i < n) :
    w.cell? ⟨g, i, none⟩ = some (.int .i64 (gi l i)) := by
  unfold OwnI at h
  rw [hn] at h
  rw [h.cellAt i (by omega)]
  unfold gi
  rw [List.getElem?_map, List.getD_eq_getElem?_getD, List.getElem?_eq_getElem (by omega)]; rfl
theorem ownI_below {w w' : World} {B : Nat} {v : Value} {l : List Int} (h : OwnI w B v l) (hb : Below w.heap.size w w') : OwnI w' B v l := by
  obtain ⟨h1, h2⟩ := h
  refine ⟨h1, ?_⟩
  rcases h2 with h2 | ⟨g, cap, cur, rfl, hg, hh, r⟩
  · exact .inl h2
  · exact .inr ⟨g, cap, cur, rfl, hg, by rw [hb.block g (lt_of_block hh)]; exact hh, r⟩
theorem ownI_form {w : World} {B : Nat} {v : Value} {l : List Int} (h : OwnI w B v l) : ∃ p c, v = .slice p l.length c ∧ l.length ≤ c ∧ c ≤ 9223372036854775807 ∧ (l ≠ [] → ∃ g, p = some ⟨g, 0, none⟩ ∧ B ≤ g) := by
  rcases h.2 with ⟨rfl, hn⟩ | ⟨g, cap, cur, rfl, hb, hg, hnc, hcm, hcs, htake⟩
  · have hl : l = [] := List.eq_nil_of_length_eq_zero hn
    subst hl
    exact ⟨none, 0, rfl, by simp, by omega, fun h => absurd rfl h⟩
  · exact ⟨_, _, rfl, hnc, by simpa [maxLen] using hcm, fun _ => ⟨g, rfl, hb⟩⟩

theorem mark_any (i : Int) (w : World) (h0 : 0 ≤ i) (h1 : i ≤ 100) : Calls Try.prog 27 #[.int .i64 1, .int .i64 i] w fun e w' => e = .returned (.int .i64 (8000024 + i)) ∧ w' = w := by
  go_enter Try.func27, Try.ntmps27
  go_wp2
  go_ret
  exact ⟨rfl, rfl⟩

def marks (k : Nat) : List Int := (List.range k).map fun (i : Nat) => 8000024 + (i : Int)
theorem marks_succ (k : Nat) : marks (k + 1) = marks k ++ [8000024 + (k : Int)] := by unfold marks; rw [List.range_succ, List.map_append]; rfl
theorem marks_length (k : Nat) : (marks k).length = k := by simp [marks]
theorem gi_front {l m : List Int} {i : Nat} (h : i < l.length) : gi (l ++ m) i = gi l i := by
  unfold gi
  rw [List.getD_eq_getElem?_getD, List.getD_eq_getElem?_getD, List.getElem?_append_left h]
theorem gi_marks {l : List Int} {k i : Nat} (h1 : l.length ≤ i) (h2 : i < l.length + k) : gi (l ++ marks k) i = 8000024 + ((i : Int) - l.length) := by
  unfold gi
  rw [List.getD_eq_getElem?_getD, List.getElem?_append_right h1]
  unfold marks
  rw [List.getElem?_map, List.getElem?_range (by omega)]
  simp; omega

theorem newsI_at {w : World} {b off : Nat} {a : List Int} (h : ∀ i, i < a.length → w.cell? ⟨b, off + i, none⟩ = some (.int .i64 (gi a i))) : ∀ j u, (a.map (Value.int .i64))[j]? = some u → w.cell? ((⟨b, off, none⟩ : Addr).add j) = some u := by
  intro j u hu
  rw [List.getElem?_map] at hu
  obtain ⟨d, hd, rfl⟩ := Option.map_eq_some_iff.1 hu
  have hj := (List.getElem?_eq_some_iff.1 hd).1
  have e2 : (⟨b, off, none⟩ : Addr).add j = ⟨b, off + j, none⟩ := by simp [Addr.add]
  rw [e2, h j hj]
  unfold gi
  rw [List.getD_eq_getElem?_getD, hd]; rfl
theorem run_joinI {w : World} {B : Nat} {v : Value} {N : List Int} {q : Option Addr} {cq : Nat} {a : List Int} (T : TypeId) (ho : OwnI w B v N) (hs : SlI w q a) (hq : q = none → cq = 0) (hl : N.length + a.length ≤ 1000000) (hB : B ≤ w.heap.size) :
    ∃ v' w', (Builtin.append_ #[22, 22] T #[v, .slice q a.length cq]).run Try.prog w = .ok v' w' ∧ OwnI w' B v' (N ++ a) ∧ w.grownBy w' v.ownBlock := by
  obtain ⟨i0, hinf, hz0, hz1, hz2⟩ := info_parts info_int
  unfold OwnI at ho
  cases q with
  | none =>
    have := hq rfl
    subst this
    have ha : a = [] := by
      rcases hs with h | ⟨b, off, h, _⟩
      · exact h
      · cases h
    subst ha
    have hrun := run_append_owned_none (P := Try.prog) (w := w) B 22 T 3 i0 1 Try.underlying22 hinf v N.length _ ho
    refine ⟨v, w, hrun, ?_, World.grownBy.refl _ _⟩
    unfold OwnI
    rw [List.append_nil]; exact ho
  | some ad =>
    have hn : ∀ j u, (a.map (Value.int .i64))[j]? = some u → w.cell? (ad.add j) = some u := by
      rcases hs with h | ⟨b, off, h, hc⟩
      · subst h; intro j u hu; simp at hu
      · simp only [Option.some.injEq] at h
        subst h
        exact newsI_at hc
    obtain ⟨v', w', h1, h2, h3, _⟩ := run_append_own (P := Try.prog) (w := w) B 22 T 3 i0 (.int .i64 0) 1 8 Try.underlying22 hinf hz0 hz1 hz2 rfl (by decide) v N.length _ ho ad a.length cq (a.map (Value.int .i64)) (by simp) hn (by intro u hu; rw [List.mem_map] at hu; obtain ⟨d, _, rfl⟩ := hu; rfl) (by simp only [maxLen]; omega) (by omega) hB
    refine ⟨v', w', h1, ?_, h3⟩
    unfold OwnI
    rw [List.length_append, List.map_append]
    exact h2

def LentPost (n : Nat) (l : List Int) (w : World) (e : Ending) (w' : World) : Prop :=
  ∃ g cap, e = .returned (.slice (some ⟨g, 0, none⟩) n cap) ∧ n + 12 ≤ cap ∧ cap ≤ 9223372036854775807 ∧ OwnI w' w.heap.size (.slice (some ⟨g, 0, none⟩) (n + 12) cap) (l ++ marks 12) ∧ Below w.heap.size w w'

set_option maxHeartbeats 1600000 in
set_option maxRecDepth 100000 in
theorem lent_any (p : Option Addr) (cp : Nat) (l : List Int) (w : World) (hp : SlI w p l) (hl : l.length ≤ 3000) (hpn : p = none → cp = 0) :
    Calls Try.prog 9 #[.slice p l.length cp] w (LentPost l.length l w) := by
  obtain ⟨i0, hinf, hz0, hz1, hz2⟩ := info_parts info_int
  obtain ⟨n, hn⟩ : ∃ n, n = l.length := ⟨_, rfl⟩
  rw [← hn]
  have hnI : (n : Int) ≤ 3000 := by omega
  have HN := Lib.hid hn
  have HP := Lib.hid hp
  have HPN := Lib.hid hpn
  have HNL := Lib.hid (show n ≤ 3000 by omega)
  clear hp hn hl hpn
  go_enter Try.func9, Try.ntmps9
  go_wp2_with (at_make; refine wpList_make_own _ rfl _ _ 22 rfl w.heap.size 3 i0 (.int .i64 0) 1 Try.underlying22 hinf hz0 hz1 .i64 .i64 _ (n + 12) rfl rfl ?m1 ?m3 ?m4 ?m5 ?_)
  case m1 => push_cast; rfl
  case m3 => rw [hz2]; have := HNL.out; omega
  case m4 => have := HNL.out; simp only [maxLen]; omega
  case m5 => exact Nat.le_refl _
  intro w2 hown2 hgrow2
  have hb2 : Below w.heap.size w w2 := (Below.refl _ _).grown hgrow2 (Nat.le_refl _) (by simp)
  have ho2 : OwnI w2 w.heap.size (.slice (some ⟨w.heap.size, 0, none⟩) 0 (n + 12)) [] := hown2
  obtain ⟨v3, w3, hr1, hr2, hr3⟩ := run_joinI (w := w2) 22 ho2 (HP.out.below hb2) HPN.out (by have := HN.out; have := HNL.out; simp; omega) hb2.size
  have hb3 : Below w.heap.size w w3 := hb2.grown hr3 hb2.size (fun k hk => (ho2.lt k hk).1)
  rw [List.nil_append] at hr2
  rw [← HN.out] at hr1
  obtain ⟨q3, c3, hv3, _⟩ := ownI_form hr2
  subst hv3
  have HR1 := Lib.hid hr1
  have HR2 := Lib.hid hr2
  have HB3 := Lib.hid hb3
  clear hr1 hr2 hr3 hb3 hb2 ho2 hown2 hgrow2
  go_wp2_with (at_builtin; refine wpList_append_run (by rfl) _ _ 22 rfl _ _ _ rfl rfl HR1.out ?_)
  go_loopw [3, 4] (fun tv iv wr => ∃ (k : Nat) (M : List Int) (q : Option Addr) (cq : Nat), k ≤ 12 ∧ iv = .int .i64 (k : Nat) ∧ tv = .slice q M.length cq ∧ Hid (M = l ++ marks k) ∧ Hid (M.length = n + k) ∧ Hid (OwnI wr w.heap.size (.slice q M.length cq) M) ∧ Hid (Below w.heap.size w wr)) (fun _ iv _ => 12 - (intOf iv).toNat)
  case atStart =>
    refine ⟨0, l, q3, c3, by omega, rfl, rfl, ?_, ?_, HR2.out, HB3.out⟩
    · show l = l ++ marks 0
      simp [marks]
    · show l.length = n + 0
      rw [HN.out]; rfl
  case round =>
    obtain ⟨k, M, q, cq, hk, rfl, rfl, HM, HML, HO, HB⟩ := hrel
    rename World => wr
    by_cases hk12 : k < 12
    · have hkI : (k : Int) < 12 := by omega
      have HO2 := HO.out
      unfold OwnI at HO2
      have HO3 := Lib.hid HO2
      have HK := Lib.hid hk12
      clear HO2 hk12
      go_wp2_with (first
        | (go_at_call 27; refine (mark_any _ _ (by omega) (by omega)).mono ?_; rintro e w' ⟨rfl, hw'⟩; obtain rfl := hw'.symm; clear hw')
        | (at_builtin; refine wpList_append_own _ rfl _ _ 22 rfl w.heap.size 3 i0 (.int .i64 0) 1 8 Try.underlying22 hinf hz0 hz1 hz2 rfl (by decide) (.slice q M.length cq) M.length _ rfl (HO3.out.alloc _) ⟨_, 0, none⟩ 1 1 [.int .i64 (8000024 + (k : Int))] rfl rfl ?c1 ?c2 ?c3 ?c4 ?c5 ?_))
      case c1 => exact cell_one_new _ _ _
      case c2 => simp [Value.oneCell']
      case c3 => have := HML.out; have := HNL.out; have := HK.out; simp only [maxLen]; omega
      case c4 => have := HML.out; have := HNL.out; have := HK.out; omega
      case c5 => have := HB.out.size; simp; omega
      intro v5 w5 hown5 hgrow5 _
      have hO5 : OwnI w5 w.heap.size v5 (M ++ [8000024 + (k : Int)]) := by
        unfold OwnI
        rw [List.length_append, List.map_append]
        exact hown5
      have hb5 : Below w.heap.size w w5 := (HB.out.alloc HB.out.size _).grown hgrow5 (by have := HB.out.size; simp; omega) (fun k hk => (HO3.out.lt k hk).1)
      obtain ⟨p', c5, hs', _⟩ := ownI_form hO5
      subst hs'
      have HO5 := Lib.hid hO5
      have HB5 := Lib.hid hb5
      have HM5 : Hid (M ++ [8000024 + (k : Int)] = l ++ marks (k + 1)) := by
        show M ++ [8000024 + (k : Int)] = l ++ marks (k + 1)
        rw [HM.out, marks_succ, List.append_assoc]
      have HML5 : Hid ((M ++ [8000024 + (k : Int)]).length = n + (k + 1)) := by
        show (M ++ [8000024 + (k : Int)]).length = n + (k + 1)
        rw [List.length_append, HML.out]; rfl
      clear hown5 hgrow5 hO5 hb5
      generalize M ++ [8000024 + (k : Int)] = M5 at *
      go_wp2
      go_roundw
      case rel => exact ⟨k + 1, M5, p', c5, by have := HK.out; omega, by go_num, rfl, HM5, HML5, HO5, HB5⟩
      case measure => simp [intOf]; omega
    · have hkk : k = 12 := by omega
      subst hkk
      have hML := HML.out
      obtain ⟨p', c', hs', hlc, hcm, hne⟩ := ownI_form HO.out
      simp only [Value.slice.injEq, true_and] at hs'
      obtain ⟨rfl, rfl⟩ := hs'
      obtain ⟨g, rfl, hg⟩ := hne (by intro e; rw [e] at hML; simp at hML)
      rw [hML]
      have hcI : (n : Int) + 12 ≤ (cq : Int) := by omega
      have hcJ : (cq : Int) ≤ 9223372036854775807 := by omega
      have HLC := Lib.hid (show n + 12 ≤ cq by omega)
      have HCM := Lib.hid hcm
      have HO2 := Lib.hid (show OwnI wr w.heap.size (.slice (some ⟨g, 0, none⟩) (n + 12) cq) (l ++ marks 12) by
        have h := HO.out
        rw [hML] at h
        rw [← HM.out]; exact h)
      clear hML hlc hcm hne hg hk12
      go_wp2
      go_ret
      exact ⟨g, cq, rfl, HLC.out, HCM.out, HO2.out, HB.out⟩

theorem lent_sl {w : World} {B : Nat} {g n cap : Nat} {l m : List Int} (h : OwnI w B (.slice (some ⟨g, 0, none⟩) (n + 12) cap) (l ++ m)) (hn : l.length = n) (hm : m.length = 12) : SlI w (some ⟨g, 0, none⟩) l := by
  refine .inr ⟨g, 0, rfl, fun i hi => ?_⟩
  rw [Nat.zero_add, ownI_cell h (by rw [List.length_append, hn, hm]) i (by omega), gi_front hi]


end Go.Proofs.Ytkpkhjflelmdjaa
