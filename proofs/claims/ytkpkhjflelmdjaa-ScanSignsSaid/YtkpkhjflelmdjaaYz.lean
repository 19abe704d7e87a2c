/- Two scans asked in one drawn region: what holds of the world by what is done; stores of what was told. -/
import Derived.Test.YtkpkhjflelmdjaaYx
import Derived.Test.YtkpkhjflelmdjaaFj
namespace Go.Proofs.Ytkpkhjflelmdjaa
open Go.RowKit Tnd

/-- a block that is a scan. -/
def ScanAt (x : World) (i : Nat) : Prop := ∃ cs fr, x.heap[i]? = some (.cells cs 48 fr)
/-- all but scans stays; scans stay scans. -/
def RS (x y : World) : Prop := x.heap.size ≤ y.heap.size ∧ ∀ i, i < x.heap.size → (¬ ScanAt x i → y.heap[i]? = x.heap[i]?) ∧ (ScanAt x i → ScanAt y i)
theorem RS.refl (x : World) : RS x x := ⟨Nat.le_refl _, fun _ _ => ⟨fun _ => rfl, id⟩⟩
theorem RS.trans {x y z : World} (h1 : RS x y) (h2 : RS y z) : RS x z := by
  refine ⟨Nat.le_trans h1.1 h2.1, fun i hi => ⟨fun hn => ?_, fun hs => ?_⟩⟩
  · have e := (h1.2 i hi).1 hn
    have hn2 : ¬ ScanAt y i := fun ⟨cs, fr, h⟩ => hn ⟨cs, fr, by rw [← e]; exact h⟩
    rw [(h2.2 i (Nat.lt_of_lt_of_le hi h1.1)).1 hn2, e]
  · exact (h2.2 i (Nat.lt_of_lt_of_le hi h1.1)).2 ((h1.2 i hi).2 hs)
theorem RS.of_below {x y : World} (h : Below x.heap.size x y) : RS x y := by
  refine ⟨h.size, fun i hi => ⟨fun _ => h.block i hi, fun ⟨cs, fr, hs⟩ => ⟨cs, fr, by rw [h.block i hi]; exact hs⟩⟩⟩
theorem Sc.scanAt {w : World} {B b : Nat} {l : List Int} {k : Nat} (h : Sc w B b l k) : ScanAt w b := by
  obtain ⟨p, c, h1, _⟩ := h
  exact ⟨_, _, h1⟩
theorem RS.of_grown {x y : World} {b : Nat} (h : x.grownBy y (some b)) (hs : ScanAt y b) (hx : ScanAt x b) : RS x y := by
  refine ⟨h.size, fun i hi => ⟨fun hn => h.block i hi (fun e => hn (by cases e; exact hx)), fun ⟨cs, fr, hi2⟩ => ?_⟩⟩
  by_cases e : i = b
  · rw [e]; exact hs
  · exact ⟨cs, fr, by rw [h.block i hi (fun h => e (by cases h; rfl))]; exact hi2⟩
theorem Tb.rs {x y : World} {nb : Nat} {cs : Array Value} (h : Tb x nb cs) (hr : RS x y) : Tb y nb cs := by
  have hn : ¬ ScanAt x nb := fun ⟨cs2, fr, h2⟩ => by
    unfold Tb at h
    rw [h2] at h
    simp only [Option.some.injEq, Obj.cells.injEq] at h
    exact absurd h.2.1 (by decide)
  show _ = _
  rw [(hr.2 nb (lt_of_block h)).1 hn]; exact h
/-- a block that is fresh, and holds nothing told yet. -/
def PT (x : World) (z : Nat) (v : Value) : Prop := ∃ nb, v = .pointer (some ⟨nb, 0, none⟩) ∧ z ≤ nb ∧ Tb x nb told00
where told00 : Array Value := tvl 0 0 0 ⟨#[]⟩ false false
theorem PT.rs {x y : World} {z : Nat} {v : Value} (h : PT x z v) (hr : RS x y) : PT y z v := by
  obtain ⟨nb, h1, h2, h3⟩ := h
  exact ⟨nb, h1, h2, h3.rs hr⟩

/-- what was told, stored whole. -/
theorem run_store_told {y : World} {nb : Nat} {n m a : Int} {s : ByteArray} {o d : Bool} (h : Tb y nb (tvl n m a s o d)) (n' m' a' : Int) (s' : ByteArray) (o' d' : Bool) :
    ∃ y', (Instr.storeAt 37 (.pointer (some ⟨nb, 0, none⟩)) (.agg (tvl n' m' a' s' o' d'))).run Try.prog y = .ok () y' ∧ Tb y' nb (tvl n' m' a' s' o' d') ∧ y.grownBy y' (some nb) := by
  obtain ⟨q0, q1, q2, q3, q4, q5⟩ := h.cells
  have f0 := h.frz 0
  have f1 := h.frz 1
  have f2 := h.frz 2
  have f3 := h.frz 3
  have f4 := h.frz 4
  have f5 := h.frz 5
  refine ⟨(((((y.setCell ⟨nb, 0, none⟩ (.int .i64 n')).setCell ⟨nb, 1, none⟩ (.int .i64 m')).setCell ⟨nb, 2, none⟩ (.int .i64 a')).setCell ⟨nb, 3, none⟩ (.string s')).setCell ⟨nb, 4, none⟩ (.bool o')).setCell ⟨nb, 5, none⟩ (.bool d'), ?_, ?_, ?_⟩
  · unfold tvl
    go_simp
  · exact (((((h.set 0 _).set 1 _).set 2 _).set 3 _).set 4 _).set 5 _
  · exact ((((((grown_set _ ⟨nb, 0, none⟩ _).trans (grown_set _ ⟨nb, 1, none⟩ _)).trans (grown_set _ ⟨nb, 2, none⟩ _)).trans (grown_set _ ⟨nb, 3, none⟩ _)).trans (grown_set _ ⟨nb, 4, none⟩ _)).trans (grown_set _ ⟨nb, 5, none⟩ _))
end Go.Proofs.Ytkpkhjflelmdjaa
