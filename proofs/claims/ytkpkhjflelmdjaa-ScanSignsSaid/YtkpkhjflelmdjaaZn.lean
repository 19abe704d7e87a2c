/- The document's scan: new, copied; what it tells of any ask. -/
import Derived.Test.YtkpkhjflelmdjaaZm
import Derived.Deep.RegionHeld3
namespace Go.Proofs.Ytkpkhjflelmdjaa
open Go.RowKit Tnd

theorem wants_any (B b : Nat) (l : List Int) (k : Nat) (y : Int) (t : ByteArray) (w : World) (h : Rs w B b l k) (ht : t.size ≤ 1000000) :
    Calls Try.prog 17 #[.pointer (some ⟨b, 0, none⟩), .agg #[.int .i64 y, .string t]] w (WT w B b l (askR (pk y) t.data.toList (l.drop k)).1 (askR (pk y) t.data.toList (l.drop k)).2.1 (askR (pk y) t.data.toList (l.drop k)).2.2.1 (askR (pk y) t.data.toList (l.drop k)).2.2.2.1 (k + (askR (pk y) t.data.toList (l.drop k)).2.2.2.2)) := by
  have hl := pk_lt y
  have hc : pk y = 0 ∨ pk y = 1 ∨ pk y = 2 ∨ pk y = 3 ∨ pk y = 4 ∨ pk y = 5 ∨ pk y = 6 ∨ pk y = 7 := by omega
  have hts : t.data.toList.length = t.size := by simp
  rcases hc with e | e | e | e | e | e | e | e
  · have key := wants_0 B b l k y t (hdR l k) (decide (k < l.length)) (if k < l.length then k + 1 else k) w h e (fun W hW => next_ref B b l k W hW)
    rw [e]
    by_cases hk : k < l.length
    · rw [drop_cons hk]
      rw [if_pos hk, decide_eq_true hk, show hdR l k = gi l k by unfold hdR; rw [if_pos hk]] at key
      exact key
    · rw [List.drop_eq_nil_of_le (by omega)]
      rw [if_neg hk, decide_eq_false hk, show hdR l k = 0 by unfold hdR; rw [if_neg hk]] at key
      exact key
  · have key := wants_1 B b l k y t (pre t.data.toList (l.drop k)) (if pre t.data.toList (l.drop k) = true then k + t.size else k) w h e (fun W hW => take_ref B b l k t W hW ht)
    rw [e]
    have e2 : (if pre t.data.toList (l.drop k) = true then k + t.size else k) = k + (askR 1 t.data.toList (l.drop k)).2.2.2.2 := by simp only [askR]; split <;> omega
    rw [e2] at key
    exact key
  · have key := wants_2 B b l k y t _ _ _ w h e (fun W hW => any_ref B b l k t W hW ht)
    rw [e]
    by_cases hk : k < l.length
    · rw [drop_cons hk]
      by_cases ha : amg (gi l k) t.data.toList = true
      · rw [if_pos ⟨hk, ha⟩, if_pos ⟨hk, ha⟩, decide_eq_true (show k < l.length ∧ amg (gi l k) t.data.toList = true from ⟨hk, ha⟩)] at key
        simp only [askR, if_pos ha]
        exact key
      · rw [if_neg (fun h => ha h.2), if_neg (fun h => ha h.2), decide_eq_false (fun h => ha h.2)] at key
        simp only [askR, if_neg ha]
        exact key
    · rw [List.drop_eq_nil_of_le (by omega)]
      rw [if_neg (fun h => hk h.1), if_neg (fun h => hk h.1), decide_eq_false (fun h => hk h.1)] at key
      exact key
  · rw [e]
    exact wants_3 B b l k y t _ _ _ w h e (fun W hW => decimal_ref B b l k W hW)
  · rw [e]
    simp only [askR]
    cases he : escR (l.drop k) with
    | some x => exact wants_4 B b l k y t x.1 true (k + x.2) w h e (fun W hW => by have := Escape_ref B b l k W hW; rw [he] at this; exact this)
    | none => exact wants_4 B b l k y t 0 false k w h e (fun W hW => by have := Escape_ref B b l k W hW; rw [he] at this; exact this)
  · rw [e]
    simp only [askR]
    cases he : namR (l.drop k) with
    | some s => exact wants_5 B b l k y t ⟨s.toArray⟩ true (k + s.length + 1) w h e (fun W hW => by have := name_ref B b l k W hW; rw [he] at this; exact this)
    | none => exact wants_5 B b l k y t noB false k w h e (fun W hW => by have := name_ref B b l k W hW; rw [he] at this; exact this)
  · have key := wants_6 B b l k y t (hdR l k) (decide (k < l.length)) k w h e (fun W hW => peek_ref B b l k W hW)
    rw [e]
    by_cases hk : k < l.length
    · rw [drop_cons hk]
      rw [decide_eq_true hk, show hdR l k = gi l k by unfold hdR; rw [if_pos hk]] at key
      exact key
    · rw [List.drop_eq_nil_of_le (by omega)]
      rw [decide_eq_false hk, show hdR l k = 0 by unfold hdR; rw [if_neg hk]] at key
      exact key
  · rw [e]
    exact wants_7 B b l k y t w h e

def RefPost (l : List Int) (k : Nat) (w : World) (e : Ending) (w' : World) : Prop :=
  ∃ b, e = .returned (.pointer (some ⟨b, 0, none⟩)) ∧ Rs w' w.heap.size b l k ∧ Below w.heap.size w w'
theorem join_empty {w : World} {q : Option Addr} {c : Nat} {l : List Int} (hs : SlI w q l) (hq : q = none → c = 0) (hl : l.length ≤ 1000000) :
    ∃ q2 c2 w2, (Builtin.append_ #[22, 22] 22 #[.slice (some ⟨w.heap.size, 0, none⟩) 0 0, .slice q l.length c]).run Try.prog (w.alloc (.cells #[] 3)) = .ok (.slice q2 l.length c2) w2 ∧ OwnI w2 w.heap.size (.slice q2 l.length c2) l ∧ Below w.heap.size w w2 := by
  obtain ⟨v, w2, h1, h2, h3⟩ := run_joinI (w := w.alloc (.cells #[] 3)) (cq := c) 22 (own_empty w) (hs.below (bl_alloc w _)) hq (by simp; omega) (bl_alloc w (.cells #[] 3)).size
  rw [List.nil_append] at h2
  obtain ⟨q2, d, rfl, _⟩ := ownI_form h2
  exact ⟨q2, d, w2, h1, h2, (bl_alloc w (.cells #[] 3)).grown h3 (bl_alloc w (.cells #[] 3)).size (fun k hk => by cases hk; exact Nat.le_refl _)⟩
set_option maxHeartbeats 800000 in
theorem new_ref (q : Option Addr) (l : List Int) (c : Nat) (w : World) (hs : SlI w q l) (hq : q = none → c = 0) (hl : l.length ≤ 1000000) :
    Calls Try.prog 11 #[.slice q l.length c] w (RefPost l 0 w) := by
  obtain ⟨q2, c2, w2, h1, h2, h3⟩ := join_empty hs hq hl
  have H1 := Lib.hid h1
  have H2 := Lib.hid h2
  have H3 := Lib.hid h3
  have HL := Lib.hid hl
  obtain ⟨n, hn⟩ : ∃ n, n = l.length := ⟨_, rfl⟩
  have HN := Lib.hid hn
  rw [← hn] at H1 ⊢
  clear h1 h2 h3 hs hq hl hn
  go_enter Try.func11, Try.ntmps11
  go_wp2_with (at_builtin; refine wpList_append_run (by rfl) _ _ 22 rfl _ _ _ rfl rfl H1.out ?_)
  go_ret
  refine ⟨w2.heap.size, rfl, ⟨q2, c2, ?_, ?_, by decide, Nat.zero_le _, HL.out, H3.out.size⟩, bl_trans H3.out (bl_alloc w2 _)⟩
  · rw [← HN.out]; exact (MapKept.heap_alloc w2 _).1
  · exact ownI_below H2.out (bl_alloc _ _)

theorem step_append_run {P : Program} {w w' : World} {ops : Array Oper} {o : Oper} {a : Act} {K : Act → World → Prop} {Q : Exit → Act → World → Prop} {E : Prop} (hgd : o.guard = none) (s x : Operand) (t : TypeId)
    (ho : o.op = .call { callee := .builtin .append, args := #[s, x], argTypes := #[t, t] }) (v u v' : Value) (hs : a.eval s = v) (hx : a.eval x = u)
    (hrun : (Builtin.append_ #[t, t] o.type #[v, u]).run P w = .ok v' w') (h : K (a.put o.dst v') w') : if Region.wanted o (yielded ops a.tmps) = true then Oper.wp P o a w K Q else E := by
  have hw : Region.wanted o (yielded ops a.tmps) = true := by simp [Region.wanted, hgd]
  rw [if_pos hw]
  unfold Oper.wp
  simp [execOp, ho, resolve, invoke, builtin, hs, hx, hrun, Result.andThen]
  exact h
set_option maxHeartbeats 1600000 in
theorem copy_ref (B b : Nat) (l : List Int) (k : Nat) (w : World) (h : Rs w B b l k) :
    Calls Try.prog 18 #[.pointer (some ⟨b, 0, none⟩)] w (RefPost l k w) := by
  have hc1 := h.cell1
  obtain ⟨p, c, hc0, ⟨hlc, hcm⟩, ho, hrow⟩ := h.row
  obtain ⟨hsl, hpn⟩ := ownI_row ho
  have HLL := Lib.hid h.le
  have hd : Below w.heap.size w w.drew := bl_drew w
  obtain ⟨q2, c2, w2, h1, h2, h3⟩ := join_empty (w := w.drew) (hsl.below hd) hpn h.le.2.2
  have H1 := Lib.hid h1
  have H2 : Hid (OwnI w2 w.heap.size (.slice q2 l.length c2) l) := h2
  have H3 : Hid (Below w.heap.size w w2) := bl_trans hd h3
  have HB := Lib.hid (show Below w.drew.heap.size w.drew w2 from h3)
  obtain ⟨n, hn⟩ : ∃ n, n = l.length := ⟨_, rfl⟩
  have HN := Lib.hid hn
  rw [← hn] at H1 hc0
  have hS0 : w.cell? ⟨b, 0, none⟩ = some (.slice p n c) ∧ w.cell? ⟨b, 1, none⟩ = some (.int .i64 (k : Nat)) ∧ Hid (Below w.heap.size w w) := ⟨hc0, hc1, Below.refl _ _⟩
  clear h hc1 hc0 hlc hcm ho hrow hsl hpn hd h1 h2 h3 hn
  go_enter Try.func18, Try.ntmps18
  go_wp2
  go_region_held3 (fun W => W.cell? ⟨b, 0, none⟩ = some (.slice p n c) ∧ W.cell? ⟨b, 1, none⟩ = some (.int .i64 (k : Nat)) ∧ Hid (Below w.heap.size w W)) (first | exact objS_below hS0 (bl_drew _) | assumption | exact objS_below (objS_below hS0 (bl_drew _)) (bl_alloc _ _) | exact objS_below (objS_below hS0 (bl_drew _)) HB.out | exact objS_below (objS_below (objS_below hS0 (bl_drew _)) HB.out) (bl_alloc _ _)) ((refine step_append_run rfl _ _ 22 rfl _ _ _ (by rfl) (by rfl) H1.out ?_))
  rename_i hHeld
  clear hHeld hS0
  go_wp2
  go_ret
  refine ⟨w2.heap.size, rfl, ⟨q2, c2, ?_, ?_, by decide, HLL.out.2.1, HLL.out.2.2, H3.out.size⟩, bl_trans H3.out (bl_alloc w2 _)⟩
  · rw [← HN.out]; exact (MapKept.heap_alloc w2 _).1
  · exact ownI_below H2.out (bl_alloc _ _)
end Go.Proofs.Ytkpkhjflelmdjaa
