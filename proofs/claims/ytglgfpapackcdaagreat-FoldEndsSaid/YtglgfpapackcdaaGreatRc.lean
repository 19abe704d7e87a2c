/- The sort's row of ranges: what the call's own row holds behind it. -/
import Derived.Test.YtglgfpapackcdaaGreatRb
import Derived.Shelf.GgSortFunc.RowK
import Derived.Sort.OwnSorted

namespace Go.Proofs.YtglgfpapackcdaaGreat
open Go.RowKit Tnr Go.Sort

theorem heap_sortedK {w : World} {g n : Nat} {os : Array Obj} {cur : Array Value} {e : TypeId} {fr : Nat × Nat} (F : Array Value) (hb : w.heap[g]? = some (.cells cur e fr)) :
    (grow (putRow id (Sort.ahead w n) g 0 F) os).heap[g]? = some (.cells (putCells id 0 F cur) e fr) := by
  have hg : g < w.heap.size := (Array.getElem?_eq_some_iff.1 hb).1
  rw [heap_grow_old _ _ (by simpa using hg)]
  simp [putRow, mapBlock, Sort.ahead, Array.getElem?_modify, hb, onCells]
theorem grownBy_sortedK {w : World} {g n : Nat} {os : Array Obj} (F : Array Value) : w.grownBy (grow (putRow id (Sort.ahead w n) g 0 F) os) (some g) := by
  refine ⟨rfl, rfl, rfl, by simp, fun k hk hne => ?_⟩
  rw [heap_grow_old _ _ (by simpa using hk)]
  have : g ≠ k := fun e => hne (by rw [e])
  simp [putRow, mapBlock, Sort.ahead, Array.getElem?_modify, this]
theorem take_putCellsK (cur F : Array Value) (h : F.size ≤ cur.size) : (putCells id 0 F cur).toList.take F.size = F.toList := by
  apply List.ext_getElem?
  intro j
  by_cases hj : j < F.size
  · rw [List.getElem?_take_of_lt hj, Array.getElem?_toList]
    simp [putCells, hj, show j < cur.size by omega]
  · rw [List.getElem?_take_eq_none (by omega), List.getElem?_eq_none (by simpa using hj)]
theorem flat_encs (l : List R) : flatK encR 2 l.toArray = (l.flatMap encR).toArray := by
  refine ext_get! (by rw [size_flatK, List.size_toArray, List.size_toArray, encs_length]) fun t ht => ?_
  have ht' : t < l.length * 2 := by simpa using ht
  rw [get_flatK _ _ _ t (by simpa using ht')]
  obtain ⟨e1, e2⟩ := encs_at l (t / 2) (by omega)
  have hd : l.toArray[t / 2]! = gr l (t / 2) := by
    rw [gr_get (by omega), getElem!_pos _ _ (by simp; omega)]; simp
  rw [hd]
  have hlen := encs_length l
  rw [getElem!_pos (l.flatMap encR).toArray t (by simp only [List.size_toArray]; omega)]
  rcases Nat.mod_two_eq_zero_or_one t with h | h
  · rw [h]
    rw [show t / 2 * 2 = t by omega, List.getElem?_eq_getElem (by omega)] at e1
    simp only [Option.some.injEq] at e1
    simp only [List.getElem_toArray]
    rw [e1]; rfl
  · rw [h]
    rw [show t / 2 * 2 + 1 = t by omega, List.getElem?_eq_getElem (by omega)] at e2
    simp only [Option.some.injEq] at e2
    simp only [List.getElem_toArray]
    rw [e2]; rfl
theorem holdsK_of_block {w : World} {g : Nat} {cur : Array Value} {e : TypeId} {l : List R} (hb : w.heap[g]? = some (.cells cur e (0, 0))) (ht : cur.toList.take (l.length * 2) = l.flatMap encR) : HoldsK encR 2 w g 0 l.toArray := by
  unfold HoldsK
  rw [flat_encs]
  intro j hj
  have hlen := encs_length l
  have hj' : j < l.length * 2 := by simpa [hlen] using hj
  refine ⟨?_, by simp [World.frozen?, hb]⟩
  have h1 : (cur.toList.take (l.length * 2))[j]? = (l.flatMap encR)[j]? := by rw [ht]
  rw [List.getElem?_take_of_lt hj'] at h1
  simp only [World.cell?, hb, Nat.zero_add]
  simp only [Option.isSome_none, Bool.false_eq_true, if_false]
  rw [← Array.getElem?_toList, h1, getElem!_pos _ j (by simpa using hj), List.getElem?_eq_getElem (by omega)]
  simp
theorem ownR_sorted {w : World} {B g cap n : Nat} {os : Array Obj} {cur : Array Value} {l d : List R} (hl : d.length = l.length) (hB : B ≤ g) (hb : w.heap[g]? = some (.cells cur 24 (0, 0)))
    (h1 : l.length ≤ cap) (h2 : cap ≤ maxLen) (h3 : cur.size = cap * 2) :
    OwnR (grow (putRowK encR 2 (Sort.ahead w n) g 0 d.toArray) os) B (.slice (some ⟨g, 0, none⟩) l.length cap) d := by
  have hlen := encs_length d
  unfold putRowK OwnR
  rw [flat_encs]
  refine ⟨by rw [hlen], .inr ⟨g, cap, _, by rw [hl], hB, heap_sortedK _ hb, by omega, h2, by simp [putCells, h3], ?_⟩⟩
  have := take_putCellsK cur (d.flatMap encR).toArray (by simp only [List.size_toArray]; omega)
  simp only [List.size_toArray] at this
  rw [hlen] at this
  exact this
end Go.Proofs.YtglgfpapackcdaaGreat
