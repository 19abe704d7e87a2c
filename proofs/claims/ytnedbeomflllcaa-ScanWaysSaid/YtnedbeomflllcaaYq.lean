/- What an ask tells, of a scan: the walk of tells. -/
import Derived.Test.YtnedbeomflllcaaYo
namespace Go.Proofs.Ytnedbeomflllcaa
open Go.RowKit Tnd

theorem tmod_range (x n : Int) (h : 0 < n) : -n < Int.tmod x n ∧ Int.tmod x n < n := by
  have h1 := Int.tmod_lt_of_pos x h
  refine ⟨?_, h1⟩
  have h2 := Int.tmod_lt_of_pos (-x) h
  rw [Int.neg_tmod] at h2
  omega
/-- what is picked of eight. -/
def pk (x : Int) : Nat := (if Int.tmod x 8 < 0 then Int.tmod x 8 + 8 else Int.tmod x 8).toNat
theorem pk_lt (x : Int) : pk x < 8 := by
  have := tmod_range x 8 (by omega)
  unfold pk
  split <;> omega
set_option maxHeartbeats 800000 in
set_option maxRecDepth 100000 in
theorem pick8 (x : Int) (w : World) :
    Calls Try.prog 5 #[.int .i64 x, .int .i64 8] w fun e w' => e = .returned (.int .i64 (pk x : Nat)) ∧ w' = w := by
  obtain ⟨h1, h2⟩ := tmod_range x 8 (by omega)
  unfold pk
  obtain ⟨y, hy⟩ : ∃ y, y = Int.tmod x 8 := ⟨_, rfl⟩
  rw [← hy] at h1 h2 ⊢
  have hw : Int.tmod x 8 = y := hy.symm
  clear hy
  by_cases h : y < 0
  · rw [if_pos h]
    have HE : Hid ((((y + 8).toNat : Nat) : Int) = y + 8) := by show _ = _; omega
    go_enter Try.func5, Try.ntmps5
    go_wp2
    go_ret
    refine ⟨?_, rfl⟩
    rw [HE.out]; rfl
  · rw [if_neg h]
    have h' : 0 ≤ y := by omega
    have HE : Hid (((y.toNat : Nat) : Int) = y) := by show _ = _; omega
    go_enter Try.func5, Try.ntmps5
    go_wp2
    go_ret
    exact ⟨ret_int (by omega), rfl⟩

/-- what was told, as a value. -/
def tvl (n m a : Int) (s : ByteArray) (o d : Bool) : Array Value := #[.int .i64 n, .int .i64 m, .int .i64 a, .string s, .bool o, .bool d]
theorem bl_three (w : World) (x y z : Obj) : Below w.heap.size w (((w.alloc x).alloc y).alloc z) := bl_trans (bl_trans (bl_alloc w x) (bl_alloc _ y)) (bl_alloc _ z)
/-- what an ask leaves: what it tells, the scan at its place. -/
def TP (w : World) (B b : Nat) (l : List Int) (n m : Int) (s : ByteArray) (o : Bool) (k' : Nat) (e : Ending) (w' : World) : Prop :=
  e = .returned (.agg (tvl n m (k' : Nat) s o (decide (k' = l.length)))) ∧ Sc w' B b l k' ∧ w.grownBy w' (some b)


end Go.Proofs.Ytnedbeomflllcaa
