/- A scan's numbers and its place: what a block holds; done, peek, next, worth, among. -/
import Derived.Test.YtnedbeomflllcaaYa
namespace Go.Proofs.Ytnedbeomflllcaa
open Go.RowKit Tnd

/-- a row of numbers of the call's own, and a place in it: the first two cells of a block. -/
def Cu (w : World) (B b : Nat) (T : TypeId) (R : List Value) (l : List Int) (k : Nat) : Prop :=
  ∃ p c, w.heap[b]? = some (.cells (Value.slice p l.length c :: Value.int .i64 (k : Nat) :: R).toArray T (0, 0)) ∧ OwnI w B (.slice p l.length c) l ∧ T ≠ 3 ∧ k ≤ l.length ∧ l.length ≤ 1000000 ∧ B ≤ b

theorem Cu.lt {w : World} {B b : Nat} {T : TypeId} {R : List Value} {l : List Int} {k : Nat} (h : Cu w B b T R l k) : b < w.heap.size := by
  obtain ⟨p, c, h1, _⟩ := h; exact lt_of_block h1
theorem Cu.le {w : World} {B b : Nat} {T : TypeId} {R : List Value} {l : List Int} {k : Nat} (h : Cu w B b T R l k) : B ≤ b ∧ k ≤ l.length ∧ l.length ≤ 1000000 := by
  obtain ⟨p, c, _, _, _, h4, h5, h6⟩ := h; exact ⟨h6, h4, h5⟩
theorem Cu.frz {w : World} {B b : Nat} {T : TypeId} {R : List Value} {l : List Int} {k : Nat} (h : Cu w B b T R l k) (i : Nat) : w.frozen? ⟨b, i, none⟩ = false := by
  obtain ⟨p, c, h1, _⟩ := h; simp [World.frozen?, h1]
theorem Cu.cell1 {w : World} {B b : Nat} {T : TypeId} {R : List Value} {l : List Int} {k : Nat} (h : Cu w B b T R l k) : w.cell? ⟨b, 1, none⟩ = some (.int .i64 (k : Nat)) := by
  obtain ⟨p, c, h1, _⟩ := h; simp [World.cell?, h1]
theorem ownI_ne {w : World} {B : Nat} {v : Value} {l : List Int} (h : OwnI w B v l) {nb : Nat} {c : Array Value} {T : TypeId} {fz : Nat × Nat} (hv : w.heap[nb]? = some (.cells c T fz)) (hT : T ≠ 3) : v.ownBlock ≠ some nb := by
  intro hg
  rcases h.2 with ⟨rfl, _⟩ | ⟨g, cap, cur, rfl, _, hh, _⟩
  · simp [Value.ownBlock] at hg
  · simp only [Value.ownBlock, Option.some.injEq] at hg
    subst hg
    rw [hh] at hv
    simp only [Option.some.injEq, Obj.cells.injEq] at hv
    exact hT hv.2.1.symm
theorem ownI_kept {w w' : World} {B : Nat} {v : Value} {l : List Int} {r : Option Nat} (h : OwnI w B v l) (hg : w.grownBy w' r) (hne : v.ownBlock = none ∨ v.ownBlock ≠ r) : OwnI w' B v l := World.ownsRow.kept h hg hne
/-- a scan's cells: the row, as a slice; its cells. -/
theorem Cu.row {w : World} {B b : Nat} {T : TypeId} {R : List Value} {l : List Int} {k : Nat} (h : Cu w B b T R l k) :
    ∃ p c, w.cell? ⟨b, 0, none⟩ = some (.slice p l.length c) ∧ (l.length ≤ c ∧ c ≤ 9223372036854775807) ∧ OwnI w B (.slice p l.length c) l ∧ (l ≠ [] → ∃ g, p = some ⟨g, 0, none⟩ ∧ ∀ i, i < l.length → w.cell? ⟨g, i, none⟩ = some (.int .i64 (gi l i))) := by
  obtain ⟨p, c, h1, h2, h3, h4, h5, h6⟩ := h
  obtain ⟨p', c', e, hlc, hcm, hn⟩ := ownI_form h2
  simp only [Value.slice.injEq, true_and] at e
  obtain ⟨rfl, rfl⟩ := e
  refine ⟨p, c, by simp [World.cell?, h1], ⟨hlc, hcm⟩, h2, fun hne => ?_⟩
  obtain ⟨g, rfl, _⟩ := hn hne
  exact ⟨g, rfl, fun i hi => ownI_cell h2 rfl i hi⟩
theorem heap_setCell_at {w : World} {b : Nat} {cs : Array Value} {T : TypeId} {fr : Nat × Nat} (h : w.heap[b]? = some (.cells cs T fr)) (i : Nat) (x : Value) : (w.setCell ⟨b, i, none⟩ x).heap[b]? = some (.cells (cs.set! i x) T fr) := by
  have hlt := lt_of_block h
  have h' : w.heap[b] = .cells cs T fr := by simpa [Array.getElem?_eq_getElem hlt] using h
  show (w.heap.modify b _)[b]? = _
  rw [Array.getElem?_eq_getElem (by simpa using hlt), Array.getElem_modify_self, h']
  rfl
theorem grown_set (w : World) (a : Addr) (x : Value) : w.grownBy (w.setCell a x) (some a.block) :=
  ⟨rfl, rfl, rfl, by simp [World.setCell], fun i _ hi => Below.heap_setCell _ _ _ _ (fun e => hi (by rw [e]))⟩
theorem grown_drewN (w : World) (n : Nat) (r : Option Nat) : w.grownBy (w.drewN n) r := by
  have h := bl_drewN w n
  exact ⟨h.os, h.tape, h.output, h.size, fun i hi _ => h.block i hi⟩
theorem grown_below {B : Nat} {w w' : World} {b : Nat} (h : w.grownBy w' (some b)) (hb : B ≤ b) (hs : B ≤ w.heap.size) : Below B w w' :=
  (Below.refl _ _).grown h hs (fun k hk => by cases hk; exact hb)
theorem below_grown {w w' : World} (h : Below w.heap.size w w') (r : Option Nat) : w.grownBy w' r := ⟨h.os, h.tape, h.output, h.size, fun i hi _ => h.block i hi⟩
theorem Cu.set {w : World} {B b : Nat} {T : TypeId} {R : List Value} {l : List Int} {k : Nat} (h : Cu w B b T R l k) (k' : Nat) (hk : k' ≤ l.length) : Cu (w.setCell ⟨b, 1, none⟩ (.int .i64 (k' : Nat))) B b T R l k' := by
  obtain ⟨p, c, h1, h2, h3, h4, h5, h6⟩ := h
  refine ⟨p, c, ?_, ownI_kept h2 (grown_set w ⟨b, 1, none⟩ _) (.inr (ownI_ne h2 h1 h3)), h3, hk, h5, h6⟩
  rw [heap_setCell_at h1]; rfl
/-- what writes another block, and new ones, leaves a scan as it was. -/
theorem Cu.kept {w w' : World} {B b : Nat} {T : TypeId} {R : List Value} {l : List Int} {k : Nat} (h : Cu w B b T R l k) {r : Option Nat} (hg : w.grownBy w' r) (hr : ∀ b2, r = some b2 → b2 ≠ b ∧ (b2 < w.heap.size → ∃ cs T2 fr, w.heap[b2]? = some (.cells cs T2 fr) ∧ T2 ≠ 3)) : Cu w' B b T R l k := by
  obtain ⟨p, c, h1, h2, h3, h4, h5, h6⟩ := h
  refine ⟨p, c, ?_, ownI_kept h2 hg ?_, h3, h4, h5, h6⟩
  · rw [hg.block b (lt_of_block h1) (fun e => (hr b e.symm).1 rfl)]; exact h1
  · cases hv : (Value.slice p l.length c).ownBlock with
    | none => exact .inl rfl
    | some g =>
      right
      intro e
      have hlt := (World.ownsRow.lt h2 g hv).2
      obtain ⟨_, hh⟩ := hr g e.symm
      obtain ⟨cs, T2, fr, e1, e2⟩ := hh hlt
      exact ownI_ne h2 e1 e2 hv
theorem Cu.drewN {w : World} {B b : Nat} {T : TypeId} {R : List Value} {l : List Int} {k : Nat} (h : Cu w B b T R l k) (n : Nat) : Cu (w.drewN n) B b T R l k := h.kept (grown_drewN w n none) (by simp)
theorem Cu.below {w w' : World} {B b : Nat} {T : TypeId} {R : List Value} {l : List Int} {k : Nat} (h : Cu w B b T R l k) (hb : Below w.heap.size w w') : Cu w' B b T R l k := h.kept (below_grown hb none) (by simp)
theorem Cu.block {w : World} {B b : Nat} {T : TypeId} {R : List Value} {l : List Int} {k : Nat} (h : Cu w B b T R l k) : ∃ cs T2 fr, w.heap[b]? = some (.cells cs T2 fr) ∧ T2 ≠ 3 := by
  obtain ⟨p, c, h1, h2, h3, h4, h5, h6⟩ := h
  exact ⟨_, _, _, h1, h3⟩
/-- two scans: what is done with the one leaves the other. -/
theorem Cu.beside {w w' : World} {B b B2 b2 : Nat} {T T2 : TypeId} {R R2 : List Value} {l m : List Int} {k j : Nat} (h : Cu w B b T R l k) (h2 : Cu w B2 b2 T2 R2 m j) (hne : b2 ≠ b) (hg : w.grownBy w' (some b2)) : Cu w' B b T R l k :=
  h.kept hg (fun x e => by cases e; exact ⟨hne, fun _ => h2.block⟩)
theorem Cu.down {w : World} {B B' b : Nat} {T : TypeId} {R : List Value} {l : List Int} {k : Nat} (h : Cu w B b T R l k) (hB : B' ≤ B) : Cu w B' b T R l k := by
  obtain ⟨p, c, h1, h2, h3, h4, h5, h6⟩ := h
  exact ⟨p, c, h1, World.ownsRow.mono h2 hB, h3, h4, h5, by omega⟩

set_option maxHeartbeats 800000 in
theorem done_any (B b : Nat) (T : TypeId) (R : List Value) (l : List Int) (k : Nat) (w : World) (h : Cu w B b T R l k) :
    Calls Try.prog 22 #[.pointer (some ⟨b, 0, none⟩)] w fun e w' => e = .returned (.bool (decide (k = l.length))) ∧ ∃ n, w' = w.drewN n := by
  have hc1 := h.cell1
  obtain ⟨p, c, hc0, ⟨hlc, hcm⟩, _, _⟩ := h.row
  obtain ⟨_, hkl, hlm⟩ := h.le
  obtain ⟨n, hn⟩ : ∃ n, n = l.length := ⟨_, rfl⟩
  rw [← hn] at hc0 hkl hlm ⊢
  have hnI : (n : Int) ≤ 1000000 := by omega
  have hkI : (k : Int) ≤ n := by omega
  clear h hn hlc hcm
  by_cases hk : k = n
  · subst hk
    go_enter Try.func22, Try.ntmps22
    go_wp2
    go_quiet (fail)
    go_wp2
    go_ret
    exact ⟨ret_bool (by simp), _, rfl⟩
  · have hkn : ((k : Int) == (n : Int)) = false := by rw [beq_eq_false_iff_ne]; omega
    have HK := Lib.hid hk
    clear hk
    go_enter Try.func22, Try.ntmps22
    go_wp2
    go_quiet (fail)
    go_wp2
    go_ret
    exact ⟨ret_bool (by rw [decide_eq_false HK.out]), _, rfl⟩

set_option maxHeartbeats 800000 in
theorem peek_no (B b : Nat) (T : TypeId) (R : List Value) (l : List Int) (w : World) (h : Cu w B b T R l l.length) :
    Calls Try.prog 25 #[.pointer (some ⟨b, 0, none⟩)] w fun e w' => e = .returned (.tuple #[.int .i64 0, .bool false]) ∧ ∃ n, w' = w.drewN n := by
  have hd := done_any B b T R l l.length w h
  rw [decide_eq_true rfl] at hd
  have HD := Lib.hid hd
  clear hd h
  go_enter Try.func25, Try.ntmps25
  go_wp2_with fail
  refine HD.out.mono ?_
  rintro e w' ⟨rfl, n, rfl⟩
  go_wp2
  go_ret2
  exact ⟨rfl, n, rfl⟩
set_option maxHeartbeats 800000 in
theorem peek_yes (B b : Nat) (T : TypeId) (R : List Value) (l : List Int) (k : Nat) (w : World) (h : Cu w B b T R l k) (hk : k < l.length) :
    Calls Try.prog 25 #[.pointer (some ⟨b, 0, none⟩)] w fun e w' => e = .returned (.tuple #[.int .i64 (gi l k), .bool true]) ∧ ∃ n, w' = w.drewN n := by
  have hd := done_any B b T R l k w h
  rw [decide_eq_false (by omega)] at hd
  have HD := Lib.hid hd
  have HC := Lib.hid h
  have HK := Lib.hid hk
  obtain ⟨x, hgx⟩ : ∃ x, x = gi l k := ⟨_, rfl⟩
  rw [← hgx]
  have HX := Lib.hid hgx
  clear hd h hgx
  go_enter Try.func25, Try.ntmps25
  go_wp2_with fail
  refine HD.out.mono ?_
  rintro e w1 ⟨rfl, n, hw⟩
  have HC1 : Cu w1 B b T R l k := by rw [hw]; exact HC.out.drewN n
  have HW := Lib.hid hw
  clear hw
  have hc1 := HC1.cell1
  obtain ⟨p, c, hc0, ⟨hlc, hcm⟩, _, hrow⟩ := HC1.row
  obtain ⟨_, hkl, hlm⟩ := HC1.le
  obtain ⟨g, rfl, hcell⟩ := hrow (by intro e; rw [e] at hk; simp at hk)
  have hx := hcell k hk
  rw [← HX.out] at hx
  obtain ⟨m, hm⟩ : ∃ m, m = l.length := ⟨_, rfl⟩
  rw [← hm] at hc0 hk hlm hlc
  have hkI : (k : Int) < m := by omega
  have hmI : (m : Int) ≤ 1000000 := by omega
  clear hcell hrow hm HC1 hkl hlc hcm HC HD
  go_wp2
  go_quiet (fail)
  go_wp2
  go_ret2
  exact ⟨rfl, n + nq, by rw [HW.out]; first | rfl | exact World.drewN_drewN _ _ _ | exact (World.drewN_drewN _ _ _).symm⟩
end Go.Proofs.Ytnedbeomflllcaa
