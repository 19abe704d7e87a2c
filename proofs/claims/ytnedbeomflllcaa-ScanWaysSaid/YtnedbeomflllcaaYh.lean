/- The walks of u's rest and of an escape. -/
import Derived.Test.YtnedbeomflllcaaYf2
import Derived.Test.YtnedbeomflllcaaYg
namespace Go.Proofs.Ytnedbeomflllcaa
open Go.RowKit Tnd

/-- a scan's cells, copied into a block of two, and copied back. -/
theorem Cu.copy {w : World} {B b : Nat} {T : TypeId} {R : List Value} {l : List Int} {k : Nat} (h : Cu w B b T R l k) :
    ∃ p c, w.cell? ⟨b, 0, none⟩ = some (.slice p l.length c) ∧ w.cell? ⟨b, 1, none⟩ = some (.int .i64 (k : Nat)) ∧
      (∀ v : Int, v = (k : Nat) → Cu (w.alloc (.cells #[.slice p l.length c, .int .i64 v] 41 (0, 0))) B w.heap.size 41 [] l k) ∧
      (∀ b2 T2 R2 k2, Cu w B b2 T2 R2 l k2 → ∀ v : Int, v = (k : Nat) → Cu ((w.setCell ⟨b2, 0, none⟩ (.slice p l.length c)).setCell ⟨b2, 1, none⟩ (.int .i64 v)) B b2 T2 R2 l k) := by
  obtain ⟨p, c, h1, h2, h3, h4, h5, h6⟩ := h
  refine ⟨p, c, by simp [World.cell?, h1], by simp [World.cell?, h1], ?_, ?_⟩
  · rintro v rfl
    exact ⟨p, c, (MapKept.heap_alloc w _).1, ownI_below h2 (bl_alloc _ _), by decide, h4, h5, by have := lt_of_block h1; omega⟩
  · rintro b2 T2 R2 k2 ⟨p2, c2, g1, g2, g3, g4, g5, g6⟩ v rfl
    have e1 : (w.setCell ⟨b2, 0, none⟩ (.slice p l.length c)).heap[b2]? = some (.cells (Value.slice p l.length c :: Value.int .i64 (k2 : Nat) :: R2).toArray T2 (0, 0)) := by rw [heap_setCell_at g1]; rfl
    have o1 := ownI_kept h2 (grown_set w ⟨b2, 0, none⟩ (.slice p l.length c)) (.inr (ownI_ne h2 g1 g3))
    refine ⟨p, c, by rw [heap_setCell_at e1]; rfl, ownI_kept o1 (grown_set _ ⟨b2, 1, none⟩ _) (.inr (ownI_ne o1 e1 g3)), g3, h4, h5, g6⟩
theorem grown_new {w w1 w2 : World} {b nb : Nat} (h1 : w.grownBy w1 (some b)) (h2 : w1.grownBy w2 (some nb)) (hn : w.heap.size ≤ nb) : w.grownBy w2 (some b) :=
  ⟨h2.os.trans h1.os, h2.tape.trans h1.tape, h2.output.trans h1.output, Nat.le_trans h1.size h2.size, fun i hi hb => by
    rw [h2.block i (Nat.lt_of_lt_of_le hi h1.size) (fun e => by cases e; omega)]; exact h1.block i hi hb⟩

set_option maxHeartbeats 800000 in
theorem long_any (B b : Nat) (T : TypeId) (R : List Value) (l : List Int) (k : Nat) (w : World) (h : Cu w B b T R l k) :
    Calls Try.prog 31 #[.pointer (some ⟨b, 0, none⟩)] w (CO w B b T R l (lngR (l.drop k)) k) := by
  have ht := take_any B b T R l k ⟨#[123]⟩ w h (by decide)
  have hls : (⟨#[123]⟩ : ByteArray).data.toList = [123] := rfl
  rw [hls] at ht
  unfold lngR
  by_cases hp : pre [123] (l.drop k) = true
  · rw [if_pos hp]
    rw [if_pos hp, hp] at ht
    have HT := Lib.hid ht
    have HH : Hid (∀ w1 : World, Cu w1 B b T R l (k + 1) → Calls Try.prog 37 #[.pointer (some ⟨b, 0, none⟩)] w1 (CO w1 B b T R l (brcR ((l.drop k).drop 1)) (k + 1))) := fun w1 h1 => by
      rw [List.drop_drop]; exact braced_any B b T R l (k + 1) w1 h1
    obtain ⟨o, ho⟩ : ∃ o, o = brcR ((l.drop k).drop 1) := ⟨_, rfl⟩
    rw [← ho] at HH ⊢
    clear ht hp hls ho h
    cases o with
    | none =>
      go_enter Try.func31, Try.ntmps31
      go_wp2_with fail
      refine HT.out.mono ?_
      rintro e w1 ⟨rfl, hc, hg⟩
      have HC := Lib.hid hc
      have HG := Lib.hid hg
      clear hc hg
      go_wp2_with fail
      refine (HH.out _ HC.out).mono ?_
      rintro e w2 ⟨k', rfl, hc, hg⟩
      go_wp2
      go_ret2
      exact ⟨k', rfl, hc, HG.out.trans hg⟩
    | some x =>
      go_enter Try.func31, Try.ntmps31
      go_wp2_with fail
      refine HT.out.mono ?_
      rintro e w1 ⟨rfl, hc, hg⟩
      have HC := Lib.hid hc
      have HG := Lib.hid hg
      clear hc hg
      go_wp2_with fail
      refine (HH.out _ HC.out).mono ?_
      rintro e w2 ⟨rfl, hc, hg⟩
      go_wp2
      go_ret2
      exact ⟨rfl, hc.at (by simp only; omega), HG.out.trans hg⟩
  · rw [if_neg hp]
    have hp2 : pre [123] (l.drop k) = false := by simpa using hp
    rw [if_neg hp, hp2] at ht
    have HT := Lib.hid ht
    have HH : Hid (∀ w1 : World, Cu w1 B b T R l k → Calls Try.prog 35 #[.pointer (some ⟨b, 0, none⟩), .int .i64 4] w1 (CO w1 B b T R l (hexO 4 (l.drop k)) k)) := fun w1 h1 => hexa_any B b T R l k 4 w1 h1 (by omega)
    unfold hexO at HH
    obtain ⟨o, ho⟩ : ∃ o, o = hexR 4 (l.drop k) := ⟨_, rfl⟩
    rw [← ho] at HH ⊢
    clear ht hp hp2 hls ho h
    cases o with
    | none =>
      go_enter Try.func31, Try.ntmps31
      go_wp2_with fail
      refine HT.out.mono ?_
      rintro e w1 ⟨rfl, hc, hg⟩
      have HC := Lib.hid hc
      have HG := Lib.hid hg
      clear hc hg
      go_wp2_with fail
      refine (HH.out _ HC.out).mono ?_
      rintro e w2 ⟨k', rfl, hc, hg⟩
      go_wp2
      go_ret2
      exact ⟨k', rfl, hc, HG.out.trans hg⟩
    | some hi =>
      simp only [Option.map_some] at HH ⊢
      have HL : Hid (∀ (nb : Nat) (w3 : World), Cu w3 B nb 41 [] l (k + 4) → Calls Try.prog 38 #[.pointer (some ⟨nb, 0, none⟩), .int .i64 hi] w3 (CO w3 B nb 41 [] l (lowO hi ((l.drop k).drop 4)) (k + 4))) := fun nb w3 h3 => by
        rw [List.drop_drop]; exact lower2_any B nb _ _ l (k + 4) hi w3 h3
      unfold lowO at HL
      obtain ⟨o, ho⟩ : ∃ o, o = lowR hi ((l.drop k).drop 4) := ⟨_, rfl⟩
      rw [← ho] at HL ⊢
      clear ho
      cases o with
      | none =>
        simp only [Option.map_none] at HL ⊢
        go_enter Try.func31, Try.ntmps31
        go_wp2_with fail
        refine HT.out.mono ?_
        rintro e w1 ⟨rfl, hc, hg⟩
        have HC := Lib.hid hc
        have HG := Lib.hid hg
        clear hc hg
        go_wp2_with fail
        refine (HH.out _ HC.out).mono ?_
        rintro e w2 ⟨rfl, hc, hg⟩
        have HG2 := Lib.hid (HG.out.trans hg)
        simp only at hc
        obtain ⟨p, c, hc0, hc1, hcopy, -⟩ := hc.copy
        have HCOPY := Lib.hid hcopy
        have HC2 := Lib.hid hc
        have hsz : Hid (w.heap.size ≤ w2.heap.size) := HG2.out.size
        have hbs : Hid (b < w2.heap.size) := hc.lt
        clear hc hg HG HC HT HH hcopy
        go_wp2_with fail
        refine (HL.out _ _ (HCOPY.out _ (by omega))).mono ?_
        rintro e w3 ⟨k', rfl, hc, hg⟩
        have HC3 := Lib.hid hc
        have HG3 := Lib.hid hg
        clear hc hg
        go_wp2
        go_ret2
        refine ⟨rfl, ?_, ?_⟩
        · refine (HC2.out.below (bl_alloc w2 _)).beside (HCOPY.out ((k : Int) + 4) (by omega)) (by have := hbs.out; omega) HG3.out
        · exact grown_new (HG2.out.trans (below_grown (bl_alloc w2 _) _)) HG3.out hsz.out
      | some x =>
        simp only [Option.map_some] at HL ⊢
        go_enter Try.func31, Try.ntmps31
        go_wp2_with fail
        refine HT.out.mono ?_
        rintro e w1 ⟨rfl, hc, hg⟩
        have HC := Lib.hid hc
        have HG := Lib.hid hg
        clear hc hg
        go_wp2_with fail
        refine (HH.out _ HC.out).mono ?_
        rintro e w2 ⟨rfl, hc, hg⟩
        have HG2 := Lib.hid (HG.out.trans hg)
        simp only at hc
        obtain ⟨p, c, hc0, hc1, hcopy, -⟩ := hc.copy
        have HCOPY := Lib.hid hcopy
        have HC2 := Lib.hid hc
        have hsz : Hid (w.heap.size ≤ w2.heap.size) := HG2.out.size
        have hbs : Hid (b < w2.heap.size) := hc.lt
        clear hc hg HG HC HT HH hcopy
        go_wp2_with fail
        refine (HL.out _ _ (HCOPY.out _ (by omega))).mono ?_
        rintro e w3 ⟨rfl, hc, hg⟩
        obtain ⟨p3, c3, hd0, hd1, -, hback⟩ := hc.copy
        have HB := Lib.hid hback
        have HC3 := Lib.hid hc
        have HG3 := Lib.hid hg
        have HCb := Lib.hid ((HC2.out.below (bl_alloc w2 _)).beside (HCOPY.out ((k : Int) + 4) (by omega)) (by have := hbs.out; omega) HG3.out)
        have hf0 := HCb.out.frz 0
        have hf1 := HCb.out.frz 1
        obtain ⟨q, d, hb0, hb1, -, -⟩ := HCb.out.copy
        clear hc hg hback
        go_wp2
        go_ret2
        refine ⟨rfl, ?_, ?_⟩
        · exact (HB.out b T R (k + 4) HCb.out _ (by omega)).at (by first | rfl | (simp only; omega) | omega)
        · exact ((grown_new (HG2.out.trans (below_grown (bl_alloc w2 _) _)) HG3.out hsz.out).trans (grown_set w3 ⟨b, 0, none⟩ _)).trans (grown_set _ ⟨b, 1, none⟩ _)
end Go.Proofs.Ytnedbeomflllcaa
