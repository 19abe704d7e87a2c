/- The walks of points' reader: left, take. -/
import Derived.Test.YtalnfbbggmhbfaaDoorPc
import Derived.Laws.Strings
import Derived.Lib.IndexBytes
namespace Go.Proofs.YtalnfbbggmhbfaaDoor
open Go.RowKit Tnd

theorem left_any (s : ByteArray) (w : World) (hs : s.size ≤ 9223372036854775807) : Calls Tryd.prog 12 #[.string s] w fun e w' => e = .returned (.int .i64 s.size) ∧ w = w' := by
  have hs1 : (s.size : Int) ≤ 9223372036854775807 := by omega
  go_enter Tryd.func12, Tryd.ntmps12
  go_wp2
  go_ret
  exact ⟨rfl, rfl⟩

theorem ret_u8_bool {a b : Int} {x y : Bool} (h : a = b) (h2 : x = y) : Ending.returned (.tuple #[.int .u8 a, .bool x]) = .returned (.tuple #[.int .u8 b, .bool y]) := by rw [h, h2]
/-- a text's first byte and the rest. -/
theorem str_cons {s : ByteArray} {x : UInt8} {t : List UInt8} (h : s.data.toList = x :: t) : s.toList ≠ [] ∧ s.toList.isEmpty = false ∧ ∃ h0 : 0 < s.size, s[0] = x ∧ (s.extract 1 s.size).data.toList = t ∧ s.size = t.length + 1 := by
  have h2 : s.toList = x :: t := by rw [ByteArray.toList_eq]; exact h
  have h3 : s.size = t.length + 1 := by
    have := congrArg List.length h
    simpa using this
  refine ⟨by rw [h2]; simp, by rw [h2]; rfl, by omega, ?_, ?_, h3⟩
  · have hl : 0 < s.data.toList.length := by rw [h]; simp
    have h8 : s.data.toList[0]? = some x := by rw [h]; rfl
    rw [List.getElem?_eq_getElem hl] at h8
    have h9 : s.data[0]'(by simpa using hl) = x := by simpa using h8
    exact h9
  · rw [Lib.extract_to_end, h]; rfl
theorem str_nil {s : ByteArray} (h : s.data.toList = []) : s.toList = [] ∧ s.toList.isEmpty = true ∧ s.size = 0 := by
  have h2 : s.toList = [] := by rw [ByteArray.toList_eq]; exact h
  refine ⟨h2, by rw [h2]; rfl, ?_⟩
  have := congrArg List.length h
  simpa using this

theorem take_nil (a : Addr) (s : ByteArray) (low high : Nat) (w : World) (hc : w.cell? a = some (.string s)) (hs : s.data.toList = []) :
   Calls Tryd.prog 30 #[.pointer (some a), .int .u8 low, .int .u8 high] w fun e w' => e = .returned (.tuple #[.int .u8 0, .bool false]) ∧ w = w' := by
  obtain ⟨h1, h2, h3⟩ := str_nil hs
  clear hs h3
  go_enter Tryd.func30, Tryd.ntmps30
  go_wp2
  go_ret2
  exact ⟨rfl, rfl⟩
theorem take_no (a : Addr) (s : ByteArray) (x : UInt8) (t : List UInt8) (low high : Nat) (w : World) (hc : w.cell? a = some (.string s)) (hs : s.data.toList = x :: t) (hx : ¬ (low ≤ x.toNat ∧ x.toNat ≤ high)) :
   Calls Tryd.prog 30 #[.pointer (some a), .int .u8 low, .int .u8 high] w fun e w' => e = .returned (.tuple #[.int .u8 0, .bool false]) ∧ w = w' := by
  obtain ⟨h1, h2, h3, h4, h5, h6⟩ := str_cons hs
  clear hs h5 h6
  by_cases hl : x.toNat < low
  · clear hx
    go_enter Tryd.func30, Tryd.ntmps30
    go_wp2
    go_ret2
    exact ⟨rfl, rfl⟩
  · have hh : high < x.toNat := by omega
    clear hx
    go_enter Tryd.func30, Tryd.ntmps30
    go_wp2
    go_ret2
    exact ⟨rfl, rfl⟩
theorem take_yes (a : Addr) (s : ByteArray) (x : UInt8) (t : List UInt8) (low high : Nat) (w : World) (hsz : s.size ≤ 9223372036854775807) (hc : w.cell? a = some (.string s)) (hf : w.frozen? a = false) (hs : s.data.toList = x :: t) (hx : low ≤ x.toNat ∧ x.toNat ≤ high) :
   Calls Tryd.prog 30 #[.pointer (some a), .int .u8 low, .int .u8 high] w fun e w' => e = .returned (.tuple #[.int .u8 x.toNat, .bool true]) ∧ w.setCell a (.string (s.extract 1 s.size)) = w' := by
  obtain ⟨h1, h2, h3, h4, h5, h6⟩ := str_cons hs
  obtain ⟨hx1, hx2⟩ := hx
  clear hs h5
  have h7 : (1 : Int) ≤ (s.size : Int) := by omega
  have h8 : (s.size : Int) ≤ 9223372036854775807 := by omega
  clear h6
  go_enter Tryd.func30, Tryd.ntmps30
  go_wp2
  go_ret2
  exact ⟨rfl, rfl⟩
end Go.Proofs.YtalnfbbggmhbfaaDoor
