/- A list written over. -/
import Derived.Test.YtkpkhjflelmdjaaZn
namespace Go.Proofs.Ytkpkhjflelmdjaa
open Go.RowKit Tnd

theorem mark2_any (i : Int) (w : World) (h0 : 0 ≤ i) (h1 : i ≤ 1000000) : Calls Try.prog 27 #[.int .i64 2, .int .i64 i] w fun e w' => e = .returned (.int .i64 (9000027 + i)) ∧ w' = w := by
  go_enter Try.func27, Try.ntmps27
  go_wp2
  go_ret
  exact ⟨rfl, rfl⟩
/-- what writes one block of numbers that is older than a scan leaves the scan. -/
theorem Cu.kept_lt {w w' : World} {B b g : Nat} {T : TypeId} {R : List Value} {l : List Int} {k : Nat} (h : Cu w B b T R l k) (hg : w.grownBy w' (some g)) (hB : g < B) : Cu w' B b T R l k := by
  obtain ⟨p, c, h1, h2, h3, h4, h5, h6⟩ := h
  refine ⟨p, c, ?_, ownI_kept h2 hg ?_, h3, h4, h5, h6⟩
  · rw [hg.block b (lt_of_block h1) (fun e => by cases e; omega)]; exact h1
  · cases hv : (Value.slice p l.length c).ownBlock with
    | none => exact .inl rfl
    | some g2 =>
      right
      have := (World.ownsRow.lt h2 g2 hv).1
      intro e; cases e; omega

set_option maxHeartbeats 1600000 in
set_option maxRecDepth 100000 in
theorem over_any (g n cap : Nat) (cur : Array Value) (w : World) (hh : w.heap[g]? = some (.cells cur 3 (0, 0))) (hc : cur.size = cap) (hn : n + 12 ≤ cap) (hm : cap ≤ 9223372036854775807) (hn3 : n ≤ 300) :
    Calls Try.prog 13 #[.slice (some ⟨g, 0, none⟩) n cap] w fun e w' => e = .returned (.tuple #[]) ∧ w.grownBy w' (some g) := by
  have hnI : (n : Int) + 12 ≤ (cap : Int) := by omega
  have hmI : (cap : Int) ≤ 9223372036854775807 := by omega
  have hn3I : (n : Int) ≤ 300 := by omega
  by_cases he : cap = n + 12
  · subst he
    have HH : Hid (∃ cur, w.heap[g]? = some (.cells cur 3 (0, 0)) ∧ cur.size = n + 12) := ⟨cur, hh, hc⟩
    clear hh hc hn hm hnI
    go_enter Try.func13, Try.ntmps13
    go_wp2
    go_loopw [3] (fun iv wr => ∃ (i : Nat), i ≤ n + 12 ∧ iv = .int .i64 (i : Nat) ∧ Hid (∃ cur, wr.heap[g]? = some (.cells cur 3 (0, 0)) ∧ cur.size = n + 12) ∧ Hid (w.grownBy wr (some g))) (fun iv _ => n + 12 - (intOf iv).toNat)
    case atStart => exact ⟨0, Nat.zero_le _, rfl, HH, World.grownBy.refl _ _⟩
    case round =>
      obtain ⟨i, hi, rfl, HC, HG⟩ := hrel
      rename World => wr
      by_cases hin : i < n + 12
      · have hinI : (i : Int) < (n : Int) + 12 := by omega
        have hi3 : (i : Int) ≤ 1000000 := by omega
        obtain ⟨cur, h1, h2⟩ := HC.out
        obtain ⟨u, hu⟩ : ∃ u, cur[i]? = some u := ⟨cur[i], by rw [Array.getElem?_eq_getElem]⟩
        have hcell : wr.cell? ⟨g, i, none⟩ = some u := by simp [World.cell?, h1, hu]
        have hfrz : wr.frozen? ⟨g, i, none⟩ = false := by simp [World.frozen?, h1]
        have HC2 : Hid (∃ cur, (wr.setCell ⟨g, i, none⟩ (.int .i64 (9000027 + (i : Int)))).heap[g]? = some (.cells cur 3 (0, 0)) ∧ cur.size = n + 12) := ⟨_, heap_setCell_at h1 i _, by simpa using h2⟩
        have HIN := Lib.hid hin
        clear h1 h2 hu hin hi
        go_wp2_with fail
        refine (mark2_any _ _ (by omega) (by omega)).mono ?_
        rintro e w2 ⟨rfl, rfl⟩
        go_wp2
        go_roundw
        case rel => exact ⟨i + 1, by have := HIN.out; omega, by go_num, HC2, HG.out.trans (grown_set _ ⟨g, i, none⟩ _)⟩
        case measure => have := HIN.out; simp only [intOf]; omega
      · have hie : i = n + 12 := by omega
        subst hie
        clear hin hi
        go_wp2
        go_end0
        exact ⟨rfl, HG.out⟩
  · have hcI : (n : Int) + 12 < (cap : Int) := by omega
    have HH : Hid (∃ cur, w.heap[g]? = some (.cells cur 3 (0, 0)) ∧ cur.size = cap) := ⟨cur, hh, hc⟩
    have HNC := Lib.hid hn
    clear hh hc hn hm he hnI
    go_enter Try.func13, Try.ntmps13
    go_wp2
    go_loopw [3] (fun iv wr => ∃ (i : Nat), i ≤ n + 12 ∧ iv = .int .i64 (i : Nat) ∧ Hid (∃ cur, wr.heap[g]? = some (.cells cur 3 (0, 0)) ∧ cur.size = cap) ∧ Hid (w.grownBy wr (some g))) (fun iv _ => n + 12 - (intOf iv).toNat)
    case atStart => exact ⟨0, Nat.zero_le _, rfl, HH, World.grownBy.refl _ _⟩
    case round =>
      obtain ⟨i, hi, rfl, HC, HG⟩ := hrel
      rename World => wr
      by_cases hin : i < n + 12
      · have hinI : (i : Int) < (n : Int) + 12 := by omega
        have hi3 : (i : Int) ≤ 1000000 := by omega
        obtain ⟨cur, h1, h2⟩ := HC.out
        have hnc := HNC.out
        obtain ⟨u, hu⟩ : ∃ u, cur[i]? = some u := ⟨cur[i], by rw [Array.getElem?_eq_getElem]⟩
        have hcell : wr.cell? ⟨g, i, none⟩ = some u := by simp [World.cell?, h1, hu]
        have hfrz : wr.frozen? ⟨g, i, none⟩ = false := by simp [World.frozen?, h1]
        have HC2 : Hid (∃ cur, (wr.setCell ⟨g, i, none⟩ (.int .i64 (9000027 + (i : Int)))).heap[g]? = some (.cells cur 3 (0, 0)) ∧ cur.size = cap) := ⟨_, heap_setCell_at h1 i _, by simpa using h2⟩
        have HIN := Lib.hid hin
        clear h1 h2 hu hin hi
        go_wp2_with fail
        refine (mark2_any _ _ (by omega) (by omega)).mono ?_
        rintro e w2 ⟨rfl, rfl⟩
        go_wp2
        go_roundw
        case rel => exact ⟨i + 1, by have := HIN.out; omega, by go_num, HC2, HG.out.trans (grown_set _ ⟨g, i, none⟩ _)⟩
        case measure => have := HIN.out; simp only [intOf]; omega
      · have hie : i = n + 12 := by omega
        subst hie
        clear hin hi
        go_wp2
        go_end0
        exact ⟨rfl, HG.out⟩
end Go.Proofs.Ytkpkhjflelmdjaa
