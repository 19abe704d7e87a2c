/- The walk of the reader's point: one code point's bytes. -/
import Derived.Test.YtalnfbbggmhbfaaDoorPf
import Derived.Laws.Rows
namespace Go.Proofs.YtalnfbbggmhbfaaDoor
open Go.RowKit Tnd

def leadsC : Array Value := ((leads.map fun l => [Value.int .u8 (l.low : Nat), .int .u8 (l.high : Nat), .int .u8 (l.mark : Nat), .int .i64 (l.behind : Nat), .int .u8 (l.next : Nat), .int .u8 (l.last : Nat)]).flatten).toArray
/-- the table of first bytes is as it is laid. -/
def LeadsIn (w : World) : Prop := ∃ T fr, w.heap[0]? = some (.cells leadsC T fr)
theorem LeadsIn.below {w w' : World} (h : LeadsIn w) (hb : Below w.heap.size w w') : LeadsIn w' := by
  obtain ⟨T, fr, h⟩ := h
  exact ⟨T, fr, by rw [hb.block _ (lt_of_block h)]; exact h⟩
theorem leads_len : leads.length = 9 := rfl
def leadAt (k : Nat) : Lead := leads.getD k ⟨0, 0, 0, 0, 0, 0⟩
theorem lead_at0 (w : World) : (Instr.index 64 (.agg leadsC) (.int .i64 0)).run Tryd.prog w = .ok (leadV (leadAt 0)) w := by kernel_rfl
theorem lead_at1 (w : World) : (Instr.index 64 (.agg leadsC) (.int .i64 1)).run Tryd.prog w = .ok (leadV (leadAt 1)) w := by kernel_rfl
theorem lead_at2 (w : World) : (Instr.index 64 (.agg leadsC) (.int .i64 2)).run Tryd.prog w = .ok (leadV (leadAt 2)) w := by kernel_rfl
theorem lead_at3 (w : World) : (Instr.index 64 (.agg leadsC) (.int .i64 3)).run Tryd.prog w = .ok (leadV (leadAt 3)) w := by kernel_rfl
theorem lead_at4 (w : World) : (Instr.index 64 (.agg leadsC) (.int .i64 4)).run Tryd.prog w = .ok (leadV (leadAt 4)) w := by kernel_rfl
theorem lead_at5 (w : World) : (Instr.index 64 (.agg leadsC) (.int .i64 5)).run Tryd.prog w = .ok (leadV (leadAt 5)) w := by kernel_rfl
theorem lead_at6 (w : World) : (Instr.index 64 (.agg leadsC) (.int .i64 6)).run Tryd.prog w = .ok (leadV (leadAt 6)) w := by kernel_rfl
theorem lead_at7 (w : World) : (Instr.index 64 (.agg leadsC) (.int .i64 7)).run Tryd.prog w = .ok (leadV (leadAt 7)) w := by kernel_rfl
theorem lead_at8 (w : World) : (Instr.index 64 (.agg leadsC) (.int .i64 8)).run Tryd.prog w = .ok (leadV (leadAt 8)) w := by kernel_rfl
theorem lead_at (k : Nat) (h : k < 9) (w : World) : (Instr.index 64 (.agg leadsC) (.int .i64 (k : Nat))).run Tryd.prog w = .ok (leadV (leadAt k)) w := by
  rcases (show k = 0 ∨ k = 1 ∨ k = 2 ∨ k = 3 ∨ k = 4 ∨ k = 5 ∨ k = 6 ∨ k = 7 ∨ k = 8 by omega) with rfl | rfl | rfl | rfl | rfl | rfl | rfl | rfl | rfl
  · exact lead_at0 w
  · exact lead_at1 w
  · exact lead_at2 w
  · exact lead_at3 w
  · exact lead_at4 w
  · exact lead_at5 w
  · exact lead_at6 w
  · exact lead_at7 w
  · exact lead_at8 w
theorem tries_drop (k : Nat) (h : k < 9) (x : UInt8) (t : List UInt8) : tries (leads.drop k) x t = if (leadAt k).low ≤ x.toNat ∧ x.toNat ≤ (leadAt k).high then fol (leadAt k).behind (leadAt k).next (leadAt k).last (x.toNat - (leadAt k).mark) t else tries (leads.drop (k + 1)) x t := by
  have e : leadAt k = leads[k]'h := by
    unfold leadAt
    rw [List.getD_eq_getElem?_getD, List.getElem?_eq_getElem (show k < leads.length from h)]; rfl
  rw [List.drop_eq_getElem_cons (show k < leads.length from h), e]
  rfl
theorem lead_facts (k : Nat) (h : k < 9) : (leadAt k).behind ≤ 3 ∧ ((leadAt k).behind = 0 ∨ (128 ≤ (leadAt k).next ∧ (leadAt k).last ≤ 191)) ∧ (leadAt k).mark ≤ (leadAt k).low ∧ (leadAt k).high < (leadAt k).mark + 128 ∧ (leadAt k).high < 256 := by
  rcases (show k = 0 ∨ k = 1 ∨ k = 2 ∨ k = 3 ∨ k = 4 ∨ k = 5 ∨ k = 6 ∨ k = 7 ∨ k = 8 by omega) with rfl | rfl | rfl | rfl | rfl | rfl | rfl | rfl | rfl <;> decide

set_option maxHeartbeats 3200000 in
set_option maxRecDepth 100000 in
theorem point_any (b B : Nat) (x : UInt8) (t : List UInt8) (l : List Nat) (w : World) (h : Rd w b B (x :: t) l) (hL : LeadsIn w) (hG : 0 < B) (hl : l.length ≤ 1000000) (ht : t.length + 1 ≤ 1000000) (hB : B ≤ b) :
    Calls Tryd.prog 13 #[.pointer (some ⟨b, 0, none⟩)] w (FollowPost b B l (pt (x :: t)) w) := by
  obtain ⟨T0, fr0, hL0⟩ := hL
  have HR := Lib.hid h
  have HBB := Lib.hid hB
  have HLL := Lib.hid hl
  have HT := Lib.hid ht
  have HL0 := Lib.hid hL0
  have HG := Lib.hid hG
  clear h hB hl ht hL0 hG
  go_enter Tryd.func13, Tryd.ntmps13
  go_wp2_with (refine wpList_load_row rfl 64 (.global 0) rfl 0 rfl T0 leadsC fr0 _ HL0.out Tryd.underlying64 rfl (by kernel_rfl) ?_)
  have HL2 := HL0.out
  go_loopw [8] (fun iv wr => ∃ (k : Nat), k ≤ 9 ∧ iv = .int .i64 (k : Nat) ∧ Hid (pt (x :: t) = tries (leads.drop k) x t) ∧ Hid (Rd wr b B (x :: t) l) ∧ Hid (Below B w wr)) (fun iv _ => 9 - (intOf iv).toNat)
  case atStart => exact ⟨0, by omega, rfl, rfl, HR.out, Below.refl _ _⟩
  case round =>
    obtain ⟨k, hk, rfl, HP, HR', HB'⟩ := hrel
    rename World => wr
    have hrd := HR'.out
    obtain ⟨s, v, h1, h2, h3⟩ := hrd
    have hsz : s.size ≤ 9223372036854775807 := by
      have e1 := congrArg List.length h3
      have e2 := HT.out
      simp at e1; omega
    have hbw := lt_of_block h1
    have H1 := Lib.hid h1
    have H2 := Lib.hid h2
    have H3 := Lib.hid h3
    have HBW := Lib.hid hbw
    clear h1 h2 h3 hbw HL2
    by_cases hk9 : k < 9
    · have hkI : (k : Int) < 9 := by omega
      have hidx := lead_at k hk9
      have htr := Lib.hid (tries_drop k hk9 x t)
      have hfa := Lib.hid (lead_facts k hk9)
      obtain ⟨⟨lo, hi, mk, be, ne, la⟩, hld⟩ : ∃ ld, ld = leadAt k := ⟨_, rfl⟩
      rw [← hld] at hidx htr hfa
      unfold leadV at hidx
      simp only at hidx
      have HLD := Lib.hid hld
      clear hld
      have hcA : (wr.alloc (.cells #[.int .u8 lo, .int .u8 hi, .int .u8 mk, .int .i64 be, .int .u8 ne, .int .u8 la] 63)).cell? ⟨b, 0, none⟩ = some (.string s) := by
        rw [World.cell?_alloc_past _ _ _ (by have := HBW.out; simp; omega)]; exact two_cell0 H1.out
      have hhA : (wr.alloc (.cells #[.int .u8 lo, .int .u8 hi, .int .u8 mk, .int .i64 be, .int .u8 ne, .int .u8 la] 63)).heap[b]? = some (.cells #[.string s, v] 37 (0, 0)) := by
        rw [heap_alloc_old _ _ HBW.out]; exact H1.out
      have hbA : Below wr.heap.size wr (wr.alloc (.cells #[.int .u8 lo, .int .u8 hi, .int .u8 mk, .int .i64 be, .int .u8 ne, .int .u8 la] 63)) := bl_alloc _ _
      have HCA := Lib.hid hcA
      have HHA := Lib.hid hhA
      have HBA := Lib.hid hbA
      have hnew : (wr.alloc (.cells #[.int .u8 lo, .int .u8 hi, .int .u8 mk, .int .i64 be, .int .u8 ne, .int .u8 la] 63)).heap[wr.heap.size]? = some (.cells #[.int .u8 lo, .int .u8 hi, .int .u8 mk, .int .i64 be, .int .u8 ne, .int .u8 la] 63) := heap_alloc_new wr _
      have HNEW := Lib.hid hnew
      clear hcA hhA hbA hnew
      have TAKE : Hid (∀ W : World, W.heap = (wr.alloc (.cells #[.int .u8 lo, .int .u8 hi, .int .u8 mk, .int .i64 be, .int .u8 ne, .int .u8 la] 63)).heap → Below wr.heap.size wr W → Calls Tryd.prog 30 #[.pointer (some ⟨b, 0, none⟩), .int .u8 lo, .int .u8 hi] W fun e w' =>
          (lo ≤ x.toNat ∧ x.toNat ≤ hi → e = .returned (.tuple #[.int .u8 x.toNat, .bool true]) ∧ Hid (Rd w' b B t l)) ∧ (¬ (lo ≤ x.toNat ∧ x.toNat ≤ hi) → e = .returned (.tuple #[.int .u8 0, .bool false]) ∧ Hid (Rd w' b B (x :: t) l)) ∧ Hid (Below B w w' ∧ wr.heap.size < w'.heap.size ∧ w'.heap[wr.heap.size]? = some (.cells #[.int .u8 lo, .int .u8 hi, .int .u8 mk, .int .i64 be, .int .u8 ne, .int .u8 la] 63))) := by
        intro W hW hBW
        have e0 : W.cell? ⟨b, 0, none⟩ = some (.string s) := by unfold World.cell? at *; rw [hW]; exact HCA.out
        have e1 : W.heap[b]? = some (.cells #[.string s, v] 37 (0, 0)) := by rw [hW]; exact HHA.out
        have e2 : W.heap[wr.heap.size]? = some (.cells #[.int .u8 lo, .int .u8 hi, .int .u8 mk, .int .i64 be, .int .u8 ne, .int .u8 la] 63) := by rw [hW]; exact HNEW.out
        have e3 : Below B w W := by
          exact HB'.out.trans (hBW.mono (by have := HBW.out; have := HBB.out; omega))
        have e4 : Own W B 3 .i64 v l := by
          have h := own_below H2.out HBA.out
          unfold Own World.ownsRow at *
          rw [hW]; exact h
        by_cases hx : lo ≤ x.toNat ∧ x.toNat ≤ hi
        · refine (take_yes _ s x t _ _ _ hsz e0 (two_free e1 0) H3.out hx).mono ?_
          rintro e w' ⟨rfl, rfl⟩
          refine ⟨fun _ => ⟨rfl, Rd.take e1 e4 H3.out⟩, fun h => absurd hx h, e3.setCell (by have := HBB.out; simpa using this) _, ?_, ?_⟩
          · have := lt_of_block e2; simpa using this
          · rw [Below.heap_setCell _ _ _ _ (by have := HBW.out; simp; omega)]; exact e2
        · refine (take_no _ s x t _ _ _ e0 H3.out hx).mono ?_
          rintro e w' ⟨rfl, rfl⟩
          exact ⟨fun h => absurd h hx, fun _ => ⟨rfl, s, v, e1, e4, H3.out⟩, e3, lt_of_block e2, e2⟩
      by_cases hx : lo ≤ x.toNat ∧ x.toNat ≤ hi
      · have HX := Lib.hid hx
        clear hx
        go_wp2
        go_region_with (go_at_call 30; refine (TAKE.out _ (by rfl) (by exact (bl_alloc _ _).drew)).mono ?_; rintro e w2 ⟨hy, _, HW2⟩; obtain ⟨rfl, HR2⟩ := hy HX.out; clear hy)
        all_goals
          have c2 : w2.cell? ⟨wr.heap.size, 2, none⟩ = some (.int .u8 mk) := by simp [World.cell?, HW2.out.2.2]
          have hm1 : (mk : Int) ≤ (x.toNat : Int) := by have := HX.out; have := hfa.out; omega
          have hm2 : (x.toNat : Int) - mk ≤ 127 := by have := HX.out; have := hfa.out; omega
          have HB2 := Lib.hid HW2.out.1
          have HFOL : Hid (∀ z : Int, z = ((x.toNat - mk : Nat) : Int) → Calls Tryd.prog 31 #[.pointer (some ⟨b, 0, none⟩), .agg #[.int .u8 lo, .int .u8 hi, .int .u8 mk, .int .i64 be, .int .u8 ne, .int .u8 la], .int .i64 z] w2 (FollowPost b B l (fol be ne la (x.toNat - mk) t) w2)) := by
            rintro z rfl
            exact follow_any b B t l lo hi mk be ne la (x.toNat - mk) w2 HR2.out hfa.out.1 hfa.out.2.1 (by omega) HLL.out (by have := HT.out; omega) HBB.out
          go_wp2_with (refine wpList_load_row rfl 63 (.tmp 4) rfl wr.heap.size rfl 63 _ (0, 0) _ HW2.out.2.2 Tryd.underlying63 rfl (by kernel_rfl) ?_)
          refine (HFOL.out _ (by omega)).mono ?_
          rintro e w3 ⟨rfl, hb3, hr3⟩
          have HB3 := Lib.hid hb3
          have HR3 := Lib.hid hr3
          clear hb3 hr3
          go_wp2
          go_ret
          have e5 := HP.out
          rw [htr.out, if_pos HX.out] at e5
          rw [e5]
          exact ⟨rfl, HB2.out.trans HB3.out, HR3.out⟩
      · have HX := Lib.hid hx
        clear hx
        go_wp2
        go_region_with (go_at_call 30; refine (TAKE.out _ (by rfl) (by exact (bl_alloc _ _).drew)).mono ?_; rintro e w2 ⟨_, hy, HW2⟩; obtain ⟨rfl, HR2⟩ := hy HX.out; clear hy)
        all_goals
          go_wp2
          go_roundw
          case rel =>
            have e5 := HP.out
            rw [htr.out, if_neg HX.out] at e5
            exact ⟨k + 1, by omega, by go_num, e5, HR2, HW2.out.1⟩
          case measure => simp [intOf]; omega
    · have hkI : 9 ≤ (k : Int) := by omega
      go_wp2
      go_ret
      have e5 := HP.out
      rw [List.drop_eq_nil_of_le (by rw [leads_len]; omega)] at e5
      rw [e5]
      refine ⟨rfl, HB'.out, ?_⟩
      show Rd _ b B (x :: t) (l ++ [])
      rw [List.append_nil]; exact HR'.out
end Go.Proofs.YtalnfbbggmhbfaaDoor
