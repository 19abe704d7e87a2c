/- The walks of the document's Of, Cmp, Sub, Right. -/
import Derived.Test.YtcahnkocfbcchaaGreatDoorNxm
import Derived.Test.YtcahnkocfbcchaaGreatDoorNc

namespace Go.Proofs.YtcahnkocfbcchaaGreatDoor
open Go.RowKit Tnd

theorem Sl.bl {w w' : World} {k : IntKind} {p : Option Addr} {l : List Nat} (h : Sl w k p l) (hb : Below w.heap.size w w') : Sl w' k p l := by
  rcases h with h | ⟨b, off, h1, h2⟩
  · exact .inl h
  · exact .inr ⟨b, off, h1, fun i hi => by rw [hb.cell (World.block_lt_of_cell? w _ (h2 i hi))]; exact h2 i hi⟩
theorem bl_tr {w w1 w2 : World} (h : Below w.heap.size w w1) (h' : Below w1.heap.size w1 w2) : Below w.heap.size w w2 := h.trans (h'.mono h.size)
theorem bl_al (w : World) (o : Obj) : Below w.heap.size w (w.alloc o) := (Below.refl _ _).alloc (Nat.le_refl _) _
/-- both sides' digits, at work. -/
theorem in_row (p : Option Addr) (c : Nat) (l : List Nat) (w : World) (hs : Sl w .u32 p l) (hd : Digs 4294967296 l) (hl : l.length ≤ 1000000) :
    Calls Tryz.prog 34 #[.agg #[.slice p l.length c]] w fun e w' => ∃ q qc N, e = .returned (.slice q N.length qc) ∧ (Sl w' .u8 q N ∧ Digs 10 N ∧ RightL N ∧ nv 10 N = nv 4294967296 l ∧ N.length ≤ 32000000) ∧ Below w.heap.size w w' := by
  refine (in_any p c l w hs hd (by omega)).mono ?_
  rintro e w' ⟨q, qc, N, rfl, ⟨ho, hdd, hr, hv⟩, hb⟩
  obtain ⟨q', c', e1, _, _, _, hs', _⟩ := own_form ho
  simp only [Value.slice.injEq, true_and] at e1
  obtain ⟨rfl, rfl⟩ := e1
  have hx : nv 4294967296 l < 2 ^ (32 * l.length) := by have h := nv_lt 4294967296 l hd; rw [show (4294967296 : Nat) = 2 ^ 32 from rfl, ← Nat.pow_mul] at h; exact h
  have := dlen hr hv hx
  exact ⟨q, qc, N, rfl, ⟨hs', hdd, hr, hv, by omega⟩, hb⟩

set_option maxHeartbeats 1600000 in
set_option maxRecDepth 100000 in
theorem rof_any (n : Nat) (w : World) (hn : n < 18446744073709551616) :
    Calls Tryz.prog 19 #[.int .u64 (n : Nat)] w fun e w' => ∃ v, e = .returned v ∧ FNat w' w.heap.size v n ∧ Below w.heap.size w w' := by
  obtain ⟨W1, hW1⟩ : ∃ W, W = w.alloc (.cells #[.slice none 0 0] 24) := ⟨_, rfl⟩
  have g1 : Below w.heap.size w W1 := by rw [hW1]; exact bl_al _ _
  have hR1 : W1.heap[w.heap.size]? = some (.cells #[.slice none 0 0] 24 (0, 0)) := by rw [hW1]; exact heap_alloc_new w _
  have hs1 : W1.heap.size = w.heap.size + 1 := by rw [hW1]; simp
  obtain ⟨W2, hW2⟩ : ∃ W, W = W1.alloc (.cells #[.int .u8 1] 5) := ⟨_, rfl⟩
  have g2 : Below W1.heap.size W1 W2 := by rw [hW2]; exact bl_al _ _
  have hsl : Sl W2 .u8 (some ⟨w.heap.size + 1, 0, none⟩) [1] := by
    refine .inr ⟨w.heap.size + 1, 0, rfl, fun i hi => ?_⟩
    have : i = 0 := by simpa using hi
    subst this
    rw [hW2, World.cell?_alloc_at _ _ _ _ hs1.symm]; rfl
  have HT := Lib.hid (rtimes_any (some ⟨w.heap.size + 1, 0, none⟩) 1 [1] n 0 (fun i c => i = 0 → c = 0) W2 hsl (by intro x hx; simp only [List.mem_singleton] at hx; omega) (fun i c hi h => by
    have : i = 0 := by simpa using hi
    subst this
    have := h rfl
    subst this
    exact ⟨by show 0 + 1 * n < _; omega, fun h => by omega⟩) (fun _ => rfl) hn (by omega) (by simp))
  have hX : n < 2 ^ 64 := by omega
  have HX := Lib.hid hX
  have hnI : (n : Int) ≤ 18446744073709551615 := by omega
  have HW2 := Lib.hid hW2
  have HW1 := Lib.hid hW1.symm
  have G12 := Lib.hid (bl_tr g1 g2)
  have HR2 : Hid (W2.heap[w.heap.size]? = some (.cells #[.slice none 0 0] 24 (0, 0))) := by show _ = _; rw [g2.block _ (by omega)]; exact hR1
  have HS1 := Lib.hid hs1
  clear hW1 hW2 g1 g2 hR1 hs1 hsl hn hX
  go_enter Tryz.func19, Tryz.ntmps19
  go_upto_region 1 with fail
  rw [HW1.out]
  go_wp2_with fail
  rw [← HW2.out, HS1.out]
  refine HT.out.mono ?_
  rintro e w3 ⟨q, qc, N, rfl, ho, hd, hr, hv, hb3⟩
  obtain ⟨q', c', e1, _, _, hn2, hs3, _⟩ := own_form ho
  simp only [Value.slice.injEq, true_and] at e1
  obtain ⟨rfl, rfl⟩ := e1
  have hv' : nv 10 N = n := by rw [hv]; simp [nv]
  have hout := out_any q qc N w3 hs3 hn2 hd hr (by have := dlen hr hv' HX.out; omega)
  rw [hv'] at hout
  have HO := Lib.hid hout
  have HB3 := Lib.hid hb3
  clear ho hd hr hv hv' hn2 hs3 hout hb3 HT
  go_wp2_with fail
  refine HO.out.mono ?_
  rintro e w4 ⟨v, rfl, hf, hb4⟩
  have g4 := bl_tr HB3.out hb4
  have hR4 : w4.heap[w.heap.size]? = some (.cells #[.slice none 0 0] 24 (0, 0)) := by rw [g4.block _ (lt_of_block HR2.out)]; exact HR2.out
  have hcr := cell_of_one hR4
  have hfr := free_of_one hR4
  have HR4 := Lib.hid hR4
  have HF := Lib.hid hf
  have HG4 := Lib.hid (bl_tr G12.out g4)
  have HSZ : Hid (w.heap.size ≤ w3.heap.size) := Nat.le_trans G12.out.size HB3.out.size
  clear hR4 hf hb4 g4 HO
  obtain ⟨rp, rc, rl, hv, _⟩ := HF.out
  subst hv
  go_wp2
  refine bodyPost_ret (v := .agg #[.slice rp rl.length rc]) (by simp [results, Tryz.results19, go_sem, hcr]) rfl ?_
  exact ⟨_, rfl, (HF.out.setCell HR4.out (by decide) _).down HSZ.out, HG4.out.setCell (by simp) _⟩

theorem right_last {l : List Nat} (h : 0 < l.length) : RightL l ↔ gd l (l.length - 1) ≠ 0 := by
  have e : l.getLast? = some (gd l (l.length - 1)) := by
    rw [List.getLast?_eq_getElem?, List.getElem?_eq_getElem (by omega)]
    unfold gd
    rw [getD_at (by omega)]
  unfold RightL
  rw [e]
  simp
set_option maxHeartbeats 1600000 in
set_option maxRecDepth 100000 in
theorem rrightn_any (p : Option Addr) (c : Nat) (l : List Nat) (w : World) (h1 : Sl w .u32 p l) (hl : l.length ≤ 1000000) :
    Calls Tryz.prog 13 #[.agg #[.slice p l.length c]] w fun e w' => e = .returned (.bool (decide (tlen l = l.length))) ∧ Below w.heap.size w w' := by
  have G1 := Lib.hid (bl_al w (.cells #[.slice p l.length c] 24))
  have hcn : (w.alloc (.cells #[.slice p l.length c] 24)).cell? ⟨w.heap.size, 0, none⟩ = some (.slice p l.length c) := by rw [World.cell?_alloc_at _ _ _ _ rfl]; rfl
  by_cases hl0 : l.length = 0
  · have hr : decide (tlen l = l.length) = true := decide_eq_true ((right_iff_tlen l).2 (by have : l = [] := List.eq_nil_of_length_eq_zero hl0; subst this; exact right_nil))
    rw [hr]
    rw [hl0] at hcn G1 ⊢
    clear h1 hr hl hl0
    go_enter Tryz.func13, Tryz.ntmps13
    go_wp2
    go_ret
    exact ⟨rfl, G1.out⟩
  · obtain ⟨b, off, rfl, hc⟩ : ∃ b off, p = some ⟨b, off, none⟩ ∧ (w.alloc (.cells #[.slice p l.length c] 24)).cell? ⟨b, off + (l.length - 1), none⟩ = some (.int .u32 (gd l (l.length - 1) : Nat)) := by
      rcases h1 with h | ⟨b, off, e1, e2⟩
      · subst h; simp at hl0
      · exact ⟨b, off, e1, by rw [(bl_al w _).cell (World.block_lt_of_cell? w _ (e2 (l.length - 1) (by omega)))]; exact e2 (l.length - 1) (by omega)⟩
    have hrl := right_last (l := l) (by omega)
    rw [← right_iff_tlen] at hrl
    obtain ⟨k, hk⟩ : ∃ k, l.length = k + 1 := ⟨l.length - 1, by omega⟩
    rw [show l.length - 1 = k by omega] at hc hrl
    by_cases hz : gd l k = 0
    · have hr : decide (tlen l = l.length) = false := decide_eq_false (fun h => hrl.1 h hz)
      rw [hr]
      rw [hz] at hc
      generalize l.length = n at *
      subst hk
      have hkI : (k : Int) ≤ 1000000 := by omega
      clear h1 hr hl hl0 hrl hz
      go_enter Tryz.func13, Tryz.ntmps13
      go_wp2
      go_ret
      exact ⟨rfl, G1.out⟩
    · have hr : decide (tlen l = l.length) = true := decide_eq_true (hrl.2 hz)
      rw [hr]
      have hzI : ¬ ((gd l k : Nat) : Int) = 0 := by omega
      generalize ((gd l k : Nat) : Int) = x at *
      generalize l.length = n at *
      subst hk
      have hkI : (k : Int) ≤ 1000000 := by omega
      clear h1 hr hl hl0 hrl hz
      go_enter Tryz.func13, Tryz.ntmps13
      go_wp2
      go_ret
      have e : (((k : Int) + 1 == 0) || (x != 0)) = true := by simp [hzI]
      refine ⟨?_, G1.out⟩
      show Ending.returned (Value.bool (((k : Int) + 1 == 0) || (x != 0))) = _
      rw [e]
end Go.Proofs.YtcahnkocfbcchaaGreatDoor
