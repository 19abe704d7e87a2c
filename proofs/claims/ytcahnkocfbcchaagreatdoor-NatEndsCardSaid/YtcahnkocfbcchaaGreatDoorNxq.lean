/- nat.Right at a row that is not right, and at any row. -/
/- nat.Sub in both cases; great at two numbers. -/
import Derived.Test.YtcahnkocfbcchaaGreatDoorNxn
import Derived.Test.YtcahnkocfbcchaaGreatDoorWj
import Derived.Test.YtcahnkocfbcchaaGreatDoorNxo
import Derived.Test.YtcahnkocfbcchaaGreatDoorWs
import Derived.Test.YtcahnkocfbcchaaGreatDoorWy
import Derived.Test.YtcahnkocfbcchaaGreatDoorNk

namespace Go.Proofs.YtcahnkocfbcchaaGreatDoor
open Go.RowKit Tnd

set_option maxHeartbeats 1600000 in
set_option maxRecDepth 100000 in
theorem rightnot_any (p : Option Addr) (c : Nat) (l : List Nat) (w : World) (h1 : Sl w .u32 p l) (hlc : l.length ≤ c) (hcm : c ≤ 9223372036854775807) (hnil : p = none → c = 0) (hr : ¬ tlen l = l.length) :
    Calls Tryz.prog 12 #[.agg #[.slice p l.length c]] w fun e w' => e = .returned (.bool false) ∧ Below w.heap.size w w' := by
  obtain ⟨w0, hw0⟩ : ∃ w0, w0 = w.alloc (.cells #[.slice p l.length c] 24) := ⟨_, rfl⟩
  have hB : Below w.heap.size w w0 := by subst hw0; exact (Below.refl _ _).alloc (Nat.le_refl _) _
  have hc1 : w0.cell? ⟨w.heap.size, 0, none⟩ = some (.slice p l.length c) := by subst hw0; rw [World.cell?_alloc_at _ _ _ _ rfl]; rfl
  have hsz : w.heap.size < w0.heap.size := by subst hw0; simp
  have hc2 : ∀ o, (w0.alloc o).cell? ⟨w.heap.size, 0, none⟩ = some (.slice p l.length c) := fun o => by rw [World.cell?_alloc_past _ _ _ (by simpa using hsz)]; exact hc1
  have hsl : ∀ W, Below w.heap.size w W → Sl W .u32 p l := by
    intro W hW
    rcases h1 with h | ⟨b, off, e1, e2⟩
    · exact .inl h
    · exact .inr ⟨b, off, e1, fun i hi => by rw [hW.cell (by simpa using World.block_lt_of_cell? w _ (e2 i hi))]; exact e2 i hi⟩
  have R1 : Hid (∀ W, Below w.heap.size w W → Calls Tryz.prog 31 #[.agg #[.slice p l.length c]] W fun e w' => e = .returned (.slice p (tlen l) c) ∧ W.alloc (.cells #[.slice p l.length c] 24) = w') := by
    intro W hW
    have h := row_exact p l c W (hsl W hW) hlc hcm hnil
    exact h
  have HB := Lib.hid hB
  have HW0 := Lib.hid hw0
  have HBQ : Hid ((((tlen l : Nat) : Int) == ((l.length : Nat) : Int)) = false) := Lib.hid (by rw [beq_eq_false_iff_ne]; omega)
  clear h1 hnil hr hB hw0 hsl
  go_enter Tryz.func12, Tryz.ntmps12
  go_wp2
  rw [← HW0.out]
  go_region_with (go_at_call 31; (with_reducible refine (R1.out _ (by repeat (first | (with_reducible exact HB.out) | (with_reducible refine Below.drew ?_) | (with_reducible refine Below.alloc ?_ (by have := HB.out.size; simp; omega) _)))).mono ?_); rintro e w' ⟨rfl, rfl⟩)
  all_goals go_wp2
  all_goals go_ret
  all_goals exact ⟨(congrArg (fun b => Ending.returned (Value.bool b)) HBQ.out : Ending.returned (Value.bool (((tlen l : Nat) : Int) == ((l.length : Nat) : Int))) = _), by repeat (first | (with_reducible exact HB.out) | (with_reducible refine below_drewN ?_ _) | (with_reducible refine Below.drew ?_) | (with_reducible refine Below.alloc ?_ (by have := HB.out.size; simp; omega) _))⟩

theorem rightg_any (p : Option Addr) (c : Nat) (l : List Nat) (w : World) (h1 : Sl w .u32 p l) (hlc : l.length ≤ c) (hcm : c ≤ 9223372036854775807) (hnil : p = none → c = 0) :
    Calls Tryz.prog 12 #[.agg #[.slice p l.length c]] w fun e w' => e = .returned (.bool (decide (tlen l = l.length))) ∧ Below w.heap.size w w' := by
  by_cases h : tlen l = l.length
  · rw [decide_eq_true h]
    exact rightn_any p c l w h1 hlc hcm hnil ((right_iff_tlen l).1 h)
  · rw [decide_eq_false h]
    exact rightnot_any p c l w h1 hlc hcm hnil h
end Go.Proofs.YtcahnkocfbcchaaGreatDoor


namespace Go.Proofs.YtcahnkocfbcchaaGreatDoor
open Go.RowKit Tnd

theorem subg_any (p1 p2 : Option Addr) (c1 c2 : Nat) (l m : List Nat) (w : World) (h1 : NatIn w w.heap.size (.agg #[.slice p1 l.length c1]) l) (h2 : NatIn w w.heap.size (.agg #[.slice p2 m.length c2]) m) (hl : l.length ≤ 1000000) (hm : m.length ≤ 1000000) :
    Calls Tryz.prog 9 #[.agg #[.slice p1 l.length c1], .agg #[.slice p2 m.length c2]] w fun e w' => ∃ v, e = .returned (.tuple #[v, .bool (decide (nv 4294967296 m ≤ nv 4294967296 l))]) ∧ FNat w' w.heap.size v (nv 4294967296 l - nv 4294967296 m) ∧ Below w.heap.size w w' := by
  by_cases h : nv 4294967296 l < nv 4294967296 m
  · rw [decide_eq_false (by omega : ¬ nv 4294967296 m ≤ nv 4294967296 l), show nv 4294967296 l - nv 4294967296 m = 0 by omega]
    refine (sub_lt p1 p2 c1 c2 l m w h1 h2 hl hm h).mono ?_
    rintro e w' ⟨rfl, hb⟩
    exact ⟨_, rfl, fnat_nil0 _ _, hb⟩
  · rw [decide_eq_true (by omega : nv 4294967296 m ≤ nv 4294967296 l)]
    exact sub_ge p1 p2 c1 c2 l m w h1 h2 hl hm (by omega)
end Go.Proofs.YtcahnkocfbcchaaGreatDoor

