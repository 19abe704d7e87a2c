import Derived.Test.YtkefndfgkmdphaaGreatFi
import Derived.Test.YtkefndfgkmdphaaGreatLj

namespace Go.Proofs.YtkefndfgkmdphaaGreat
set_option maxHeartbeats 800000
set_option maxRecDepth 100000
open Go.RowKit Tnr Tnt

def SlU (w : World) (p : Option Addr) (l : List Int) : Prop :=
 l = [] ∨ ∃ b off, p = some ⟨b, off, none⟩ ∧ ∀ i, i < l.length → w.cell? ⟨b, off + i, none⟩ = some (.int .u8 (gz l i))
theorem SlU.below {w w' : World} {p : Option Addr} {l : List Int} (h : SlU w p l) (hb : Below w.heap.size w w') : SlU w' p l := by
 rcases h with h | ⟨b, off, h1, h2⟩
 ·exact .inl h
 ·exact .inr ⟨b, off, h1, fun i hi => by rw [hb.cell (World.block_lt_of_cell? w _ (h2 i hi))]; exact h2 i hi⟩
theorem slu_at {w : World} {p : Option Addr} {l : List Int} (h : SlU w p l) {k : Nat} (hk : k < l.length) : ∃ b off, p = some ⟨b, off, none⟩ ∧ w.cell? ⟨b, off + k, none⟩ = some (.int .u8 (gz l k)) := by
 rcases h with h | ⟨b, off, h1, h2⟩
 ·rw [h] at hk; simp at hk
 ·exact ⟨b, off, h1, h2 k hk⟩
theorem slu_new (w : World) (l : List Int) (T : TypeId) (cs : Array Value) (hcs : cs = (l.map (Value.int .u8)).toArray) : SlU (w.alloc (.cells cs T)) (some ⟨w.heap.size, 0, none⟩) l := by
 refine .inr ⟨w.heap.size, 0, rfl, fun i hi => ?_⟩
 rw [Nat.zero_add, World.cell?_alloc_at _ _ _ _ rfl, hcs]
 simp [hi, gz_get hi]
def gb (l : List ByteArray) (i : Nat) : ByteArray := l.getD i ⟨#[]⟩
theorem gb_get {l : List ByteArray} {i : Nat} (h : i < l.length) : gb l i = l[i] := by
 unfold gb
 rw [List.getD_eq_getElem?_getD, List.getElem?_eq_getElem h]; rfl
def SlX (w : World) (p : Option Addr) (l : List ByteArray) : Prop :=
 l = [] ∨ ∃ b off, p = some ⟨b, off, none⟩ ∧ ∀ i, i < l.length → w.cell? ⟨b, off + i, none⟩ = some (.string (gb l i))
theorem SlX.below {w w' : World} {p : Option Addr} {l : List ByteArray} (h : SlX w p l) (hb : Below w.heap.size w w') : SlX w' p l := by
 rcases h with h | ⟨b, off, h1, h2⟩
 ·exact .inl h
 ·exact .inr ⟨b, off, h1, fun i hi => by rw [hb.cell (World.block_lt_of_cell? w _ (h2 i hi))]; exact h2 i hi⟩
theorem slx_at {w : World} {p : Option Addr} {l : List ByteArray} (h : SlX w p l) {k : Nat} (hk : k < l.length) : ∃ b off, p = some ⟨b, off, none⟩ ∧ w.cell? ⟨b, off + k, none⟩ = some (.string (gb l k)) := by
 rcases h with h | ⟨b, off, h1, h2⟩
 ·rw [h] at hk; simp at hk
 ·exact ⟨b, off, h1, h2 k hk⟩
theorem ba_inj {a b : ByteArray} (h : a.toList = b.toList) : a = b := by
 rw [Go.ByteArray.toList_eq, Go.ByteArray.toList_eq] at h
 cases a; cases b; simp only [Array.toList_inj] at h; rw [h]
theorem mem_take_succ {α : Type} {l : List α} {k : Nat} {x a : α} (h : l.take (k + 1) = l.take k ++ [a]) : x ∈ l.take (k + 1) ↔ x ∈ l.take k ∨ x = a := by rw [h]; simp
theorem gb_take {l : List ByteArray} {k : Nat} (h : k < l.length) : l.take (k + 1) = l.take k ++ [gb l k] := by
 rw [List.take_add_one, List.getElem?_eq_getElem h, gb_get h]; rfl

theorem indexK_any (p : Option Addr) (c n : Nat) (l : List Int) (x : Int) (w : World) (hn : n = l.length) (hp : SlU w p l) (hl : n ≤ 1000000) :
  Calls Tryz.prog 168 #[.slice p n c, .int .u8 x] w fun e w' => (∃ z : Int, e = .returned (.int .i64 z) ∧ (0 ≤ z ↔ x ∈ l)) ∧ w' = w := by
 have HP := lh hp
 have HN := lh hn
 have hnI : (n : Int) ≤ 1000000 := by omega
 clear hp hn
 go_enter Tryz.func168, Tryz.ntmps168
 go_wp2
 go_loopw [8] (fun iv wr => ∃ k : Nat, k ≤ n ∧ iv = .int .i64 (k : Nat) ∧ Hid (x ∉ l.take k) ∧ wr = w) (fun iv _ => n - (intOf iv).toNat)
 case atStart => exact ⟨0, Nat.zero_le _, rfl, by show x ∉ l.take 0; simp, rfl⟩
 case round =>
  obtain ⟨k, hk, rfl, HE, rfl⟩ := hrel
  by_cases hkn : k < n
  ·have hkl : k < l.length := by have := HN.out; omega
   obtain ⟨b, o, rfl, hc⟩ := slu_at HP.out hkl
   have hkI : (k : Int) < n := by omega
   obtain ⟨y, hy⟩ : ∃ y, y = gz l k := ⟨_, rfl⟩
   rw [← hy] at hc
   have HT : Hid (l.take (k + 1) = l.take k ++ [y]) := by show _ = _; rw [hy]; exact gz_take hkl
   have HM : Hid (y ∈ l) := by show y ∈ l; rw [hy]; unfold gz; rw [List.getD_eq_getElem?_getD, List.getElem?_eq_getElem hkl]; exact List.getElem_mem _
   clear hy hkl
   by_cases hxy : x = y
   ·have hb : (x == y) = true := by simpa using hxy
    have HX := lh hxy
    clear hxy
    go_wp2
    go_ret
    exact ⟨⟨k, rfl, ⟨fun _ => by rw [HX.out]; exact HM.out, fun _ => by omega⟩⟩, by first | rfl | trivial⟩
   ·have hb : (x == y) = false := by simpa using hxy
    have HX := lh hxy
    clear hxy
    go_wp2
    go_roundw
    case rel =>
     refine ⟨k + 1, by omega, by go_num, ?_, by first | rfl | trivial⟩
     show x ∉ l.take (k + 1)
     rw [mem_take_succ HT.out]
     exact fun h => h.elim HE.out HX.out
    case measure => simp [intOf]; omega
  ·have hkI : (n : Int) ≤ k := by omega
   go_wp2
   go_ret
   refine ⟨⟨-1, rfl, ⟨fun h => by omega, fun h => absurd h ?_⟩⟩, by first | rfl | trivial⟩
   have := HE.out
   rwa [List.take_of_length_le (by have := HN.out; omega)] at this
theorem containsK_any (p : Option Addr) (c n : Nat) (l : List Int) (x : Int) (w : World) (hn : n = l.length) (hp : SlU w p l) (hl : n ≤ 1000000) :
  Calls Tryz.prog 118 #[.slice p n c, .int .u8 x] w fun e w' => (∃ b : Bool, e = .returned (.bool b) ∧ (b = true ↔ x ∈ l)) ∧ w' = w := by
 have HI := lh (indexK_any p c n l x w hn hp hl)
 clear hn hp hl
 go_enter Tryz.func118, Tryz.ntmps118
 go_wp2_with fail
 refine HI.out.mono ?_
 rintro e w' ⟨⟨z, rfl, hz⟩, rfl⟩
 have HZ := lh hz
 clear hz
 go_wp2
 go_ret
 exact ⟨⟨_, rfl, by rw [← HZ.out]; simp⟩, rfl⟩

theorem indexM_any (p : Option Addr) (c n : Nat) (l : List Int) (x : Int) (w : World) (hn : n = l.length) (hp : SlU w p l) (hl : n ≤ 1000000) :
  Calls Tryz.prog 247 #[.slice p n c, .int .u8 x] w fun e w' => (∃ z : Int, e = .returned (.int .i64 z) ∧ (0 ≤ z ↔ x ∈ l)) ∧ w' = w := by
 have HP := lh hp
 have HN := lh hn
 have hnI : (n : Int) ≤ 1000000 := by omega
 clear hp hn
 go_enter Tryz.func247, Tryz.ntmps247
 go_wp2
 go_loopw [8] (fun iv wr => ∃ k : Nat, k ≤ n ∧ iv = .int .i64 (k : Nat) ∧ Hid (x ∉ l.take k) ∧ wr = w) (fun iv _ => n - (intOf iv).toNat)
 case atStart => exact ⟨0, Nat.zero_le _, rfl, by show x ∉ l.take 0; simp, rfl⟩
 case round =>
  obtain ⟨k, hk, rfl, HE, rfl⟩ := hrel
  by_cases hkn : k < n
  ·have hkl : k < l.length := by have := HN.out; omega
   obtain ⟨b, o, rfl, hc⟩ := slu_at HP.out hkl
   have hkI : (k : Int) < n := by omega
   obtain ⟨y, hy⟩ : ∃ y, y = gz l k := ⟨_, rfl⟩
   rw [← hy] at hc
   have HT : Hid (l.take (k + 1) = l.take k ++ [y]) := by show _ = _; rw [hy]; exact gz_take hkl
   have HM : Hid (y ∈ l) := by show y ∈ l; rw [hy]; unfold gz; rw [List.getD_eq_getElem?_getD, List.getElem?_eq_getElem hkl]; exact List.getElem_mem _
   clear hy hkl
   by_cases hxy : x = y
   ·have hb : (x == y) = true := by simpa using hxy
    have HX := lh hxy
    clear hxy
    go_wp2
    go_ret
    exact ⟨⟨k, rfl, ⟨fun _ => by rw [HX.out]; exact HM.out, fun _ => by omega⟩⟩, by first | rfl | trivial⟩
   ·have hb : (x == y) = false := by simpa using hxy
    have HX := lh hxy
    clear hxy
    go_wp2
    go_roundw
    case rel =>
     refine ⟨k + 1, by omega, by go_num, ?_, by first | rfl | trivial⟩
     show x ∉ l.take (k + 1)
     rw [mem_take_succ HT.out]
     exact fun h => h.elim HE.out HX.out
    case measure => simp [intOf]; omega
  ·have hkI : (n : Int) ≤ k := by omega
   go_wp2
   go_ret
   refine ⟨⟨-1, rfl, ⟨fun h => by omega, fun h => absurd h ?_⟩⟩, by first | rfl | trivial⟩
   have := HE.out
   rwa [List.take_of_length_le (by have := HN.out; omega)] at this
theorem containsM_any (p : Option Addr) (c n : Nat) (l : List Int) (x : Int) (w : World) (hn : n = l.length) (hp : SlU w p l) (hl : n ≤ 1000000) :
  Calls Tryz.prog 235 #[.slice p n c, .int .u8 x] w fun e w' => (∃ b : Bool, e = .returned (.bool b) ∧ (b = true ↔ x ∈ l)) ∧ w' = w := by
 have HI := lh (indexM_any p c n l x w hn hp hl)
 clear hn hp hl
 go_enter Tryz.func235, Tryz.ntmps235
 go_wp2_with fail
 refine HI.out.mono ?_
 rintro e w' ⟨⟨z, rfl, hz⟩, rfl⟩
 have HZ := lh hz
 clear hz
 go_wp2
 go_ret
 exact ⟨⟨_, rfl, by rw [← HZ.out]; simp⟩, rfl⟩

theorem indexX_any (p : Option Addr) (c n : Nat) (l : List ByteArray) (x : ByteArray) (w : World) (hn : n = l.length) (hp : SlX w p l) (hl : n ≤ 1000000) :
  Calls Tryz.prog 211 #[.slice p n c, .string x] w fun e w' => (∃ z : Int, e = .returned (.int .i64 z) ∧ (0 ≤ z ↔ x ∈ l)) ∧ w' = w := by
 have HP := lh hp
 have HN := lh hn
 have hnI : (n : Int) ≤ 1000000 := by omega
 clear hp hn
 go_enter Tryz.func211, Tryz.ntmps211
 go_wp2
 go_loopw [8] (fun iv wr => ∃ k : Nat, k ≤ n ∧ iv = .int .i64 (k : Nat) ∧ Hid (x ∉ l.take k) ∧ wr = w) (fun iv _ => n - (intOf iv).toNat)
 case atStart => exact ⟨0, Nat.zero_le _, rfl, by show x ∉ l.take 0; simp, rfl⟩
 case round =>
  obtain ⟨k, hk, rfl, HE, rfl⟩ := hrel
  by_cases hkn : k < n
  ·have hkl : k < l.length := by have := HN.out; omega
   obtain ⟨b, o, rfl, hc⟩ := slx_at HP.out hkl
   have hkI : (k : Int) < n := by omega
   obtain ⟨y, hy⟩ : ∃ y, y = gb l k := ⟨_, rfl⟩
   rw [← hy] at hc
   have HT : Hid (l.take (k + 1) = l.take k ++ [y]) := by show _ = _; rw [hy]; exact gb_take hkl
   have HM : Hid (y ∈ l) := by show y ∈ l; rw [hy]; unfold gb; rw [List.getD_eq_getElem?_getD, List.getElem?_eq_getElem hkl]; exact List.getElem_mem _
   clear hy hkl
   by_cases hxy : x = y
   ·have hb : (x.toList == y.toList) = true := by rw [hxy]; simp
    have HX := lh hxy
    clear hxy
    go_wp2
    go_ret
    exact ⟨⟨k, rfl, ⟨fun _ => by rw [HX.out]; exact HM.out, fun _ => by omega⟩⟩, by first | rfl | trivial⟩
   ·have hb : (x.toList == y.toList) = false := by rw [beq_eq_false_iff_ne]; exact fun e => hxy (ba_inj e)
    have HX := lh hxy
    clear hxy
    go_wp2
    go_roundw
    case rel =>
     refine ⟨k + 1, by omega, by go_num, ?_, by first | rfl | trivial⟩
     show x ∉ l.take (k + 1)
     rw [mem_take_succ HT.out]
     exact fun h => h.elim HE.out HX.out
    case measure => simp [intOf]; omega
  ·have hkI : (n : Int) ≤ k := by omega
   go_wp2
   go_ret
   refine ⟨⟨-1, rfl, ⟨fun h => by omega, fun h => absurd h ?_⟩⟩, by first | rfl | trivial⟩
   have := HE.out
   rwa [List.take_of_length_le (by have := HN.out; omega)] at this
theorem containsX_any (p : Option Addr) (c n : Nat) (l : List ByteArray) (x : ByteArray) (w : World) (hn : n = l.length) (hp : SlX w p l) (hl : n ≤ 1000000) :
  Calls Tryz.prog 174 #[.slice p n c, .string x] w fun e w' => (∃ b : Bool, e = .returned (.bool b) ∧ (b = true ↔ x ∈ l)) ∧ w' = w := by
 have HI := lh (indexX_any p c n l x w hn hp hl)
 clear hn hp hl
 go_enter Tryz.func174, Tryz.ntmps174
 go_wp2_with fail
 refine HI.out.mono ?_
 rintro e w' ⟨⟨z, rfl, hz⟩, rfl⟩
 have HZ := lh hz
 clear hz
 go_wp2
 go_ret
 exact ⟨⟨_, rfl, by rw [← HZ.out]; simp⟩, rfl⟩

theorem minZ_any (p : Option Addr) (c n : Nat) (l : List Int) (w : World) (hn : n = l.length) (h1 : 1 ≤ n) (hp : SlZ w p l) (hl : n ≤ 1000000) :
  Calls Tryz.prog 68 #[.slice p n c] w fun e w' => (∃ z : Int, e = .returned (.int .i64 z) ∧ z ∈ l ∧ ∀ y ∈ l, z ≤ y) ∧ w' = w := by
 have HP := lh hp
 have HN := lh hn
 have hnI : (n : Int) ≤ 1000000 := by omega
 have hn1 : (1 : Int) ≤ n := by omega
 obtain ⟨b, o, rfl, hc0⟩ := slz_at hp (show 0 < l.length by omega)
 rw [Nat.add_zero] at hc0
 have h0z : l.take 1 = [gz l 0] := by rw [gz_take (show 0 < l.length by omega)]; rfl
 have HZ0 := lh h0z
 have H1 := lh h1
 clear hp hn h0z h1
 go_enter Tryz.func68, Tryz.ntmps68
 go_wp2
 go_loopw [3, 4] (fun mv iv wr => ∃ (k : Nat) (z : Int), 1 ≤ k ∧ k ≤ n ∧ mv = .int .i64 z ∧ iv = .int .i64 (k : Nat) ∧ Hid (z ∈ l.take k ∧ ∀ y ∈ l.take k, z ≤ y) ∧ wr = w) (fun _ iv _ => n - (intOf iv).toNat)
 case atStart => exact ⟨1, gz l 0, Nat.le_refl _, H1.out, rfl, rfl, by show _ ∧ _; rw [HZ0.out]; simp, rfl⟩
 case round =>
  obtain ⟨k, z, hk1, hk, rfl, rfl, HE, rfl⟩ := hrel
  by_cases hkn : k < n
  ·have hkl : k < l.length := by have := HN.out; omega
   obtain ⟨b2, o2, hbo, hc⟩ := slz_at HP.out hkl
   simp only [Option.some.injEq, Addr.mk.injEq, and_true] at hbo
   obtain ⟨rfl, rfl⟩ := hbo
   have hkI : (k : Int) < n := by omega
   obtain ⟨y, hy⟩ : ∃ y, y = gz l k := ⟨_, rfl⟩
   rw [← hy] at hc
   have HT : Hid (l.take (k + 1) = l.take k ++ [y]) := by show _ = _; rw [hy]; exact gz_take hkl
   clear hy hkl
   go_wp2
   go_roundw
   case rel =>
    refine ⟨k + 1, _, by omega, by omega, rfl, by go_num, ?_, by first | rfl | trivial⟩
    show _ ∧ _
    rw [HT.out]
    obtain ⟨e1, e2⟩ := HE.out
    by_cases hyz : y < z
    ·rw [if_pos hyz]
     refine ⟨by simp, fun x hx => ?_⟩
     rcases List.mem_append.1 hx with hx | hx
     ·have := e2 x hx; omega
     ·simp only [List.mem_singleton] at hx; omega
    ·rw [if_neg hyz]
     refine ⟨List.mem_append.2 (.inl e1), fun x hx => ?_⟩
     rcases List.mem_append.1 hx with hx | hx
     ·exact e2 x hx
     ·simp only [List.mem_singleton] at hx; omega
   case measure => simp [intOf]; omega
  ·have hkI : (n : Int) ≤ k := by omega
   obtain rfl : k = n := by omega
   go_wp2
   go_ret
   have e := HE.out
   rw [List.take_of_length_le (by have := HN.out; omega)] at e
   exact ⟨⟨z, rfl, e.1, e.2⟩, by first | rfl | trivial⟩

theorem maxZ_any (p : Option Addr) (c n : Nat) (l : List Int) (w : World) (hn : n = l.length) (h1 : 1 ≤ n) (hp : SlZ w p l) (hl : n ≤ 1000000) :
  Calls Tryz.prog 69 #[.slice p n c] w fun e w' => (∃ z : Int, e = .returned (.int .i64 z) ∧ z ∈ l ∧ ∀ y ∈ l, y ≤ z) ∧ w' = w := by
 have HP := lh hp
 have HN := lh hn
 have hnI : (n : Int) ≤ 1000000 := by omega
 have hn1 : (1 : Int) ≤ n := by omega
 obtain ⟨b, o, rfl, hc0⟩ := slz_at hp (show 0 < l.length by omega)
 rw [Nat.add_zero] at hc0
 have h0z : l.take 1 = [gz l 0] := by rw [gz_take (show 0 < l.length by omega)]; rfl
 have HZ0 := lh h0z
 have H1 := lh h1
 clear hp hn h0z h1
 go_enter Tryz.func69, Tryz.ntmps69
 go_wp2
 go_loopw [3, 4] (fun mv iv wr => ∃ (k : Nat) (z : Int), 1 ≤ k ∧ k ≤ n ∧ mv = .int .i64 z ∧ iv = .int .i64 (k : Nat) ∧ Hid (z ∈ l.take k ∧ ∀ y ∈ l.take k, y ≤ z) ∧ wr = w) (fun _ iv _ => n - (intOf iv).toNat)
 case atStart => exact ⟨1, gz l 0, Nat.le_refl _, H1.out, rfl, rfl, by show _ ∧ _; rw [HZ0.out]; simp, rfl⟩
 case round =>
  obtain ⟨k, z, hk1, hk, rfl, rfl, HE, rfl⟩ := hrel
  by_cases hkn : k < n
  ·have hkl : k < l.length := by have := HN.out; omega
   obtain ⟨b2, o2, hbo, hc⟩ := slz_at HP.out hkl
   simp only [Option.some.injEq, Addr.mk.injEq, and_true] at hbo
   obtain ⟨rfl, rfl⟩ := hbo
   have hkI : (k : Int) < n := by omega
   obtain ⟨y, hy⟩ : ∃ y, y = gz l k := ⟨_, rfl⟩
   rw [← hy] at hc
   have HT : Hid (l.take (k + 1) = l.take k ++ [y]) := by show _ = _; rw [hy]; exact gz_take hkl
   clear hy hkl
   go_wp2
   go_roundw
   case rel =>
    refine ⟨k + 1, _, by omega, by omega, rfl, by go_num, ?_, by first | rfl | trivial⟩
    show _ ∧ _
    rw [HT.out]
    obtain ⟨e1, e2⟩ := HE.out
    by_cases hyz : z < y
    ·rw [if_pos hyz]
     refine ⟨by simp, fun x hx => ?_⟩
     rcases List.mem_append.1 hx with hx | hx
     ·have := e2 x hx; omega
     ·simp only [List.mem_singleton] at hx; omega
    ·rw [if_neg hyz]
     refine ⟨List.mem_append.2 (.inl e1), fun x hx => ?_⟩
     rcases List.mem_append.1 hx with hx | hx
     ·exact e2 x hx
     ·simp only [List.mem_singleton] at hx; omega
   case measure => simp [intOf]; omega
  ·have hkI : (n : Int) ≤ k := by omega
   obtain rfl : k = n := by omega
   go_wp2
   go_ret
   have e := HE.out
   rw [List.take_of_length_le (by have := HN.out; omega)] at e
   exact ⟨⟨z, rfl, e.1, e.2⟩, by first | rfl | trivial⟩
end Go.Proofs.YtkefndfgkmdphaaGreat


namespace Go.Proofs.YtkefndfgkmdphaaGreat
set_option maxHeartbeats 3200000
set_option maxRecDepth 100000
open Go.RowKit Tnr Tnt

attribute [local go_sem] Oper.semAt_some

def ev (ks : List Int) : Nat → List NV → List (Nat × NV)
 | _, [] => []
 | k, x :: xs => if x.nd.kind ∈ ks then (k, x) :: ev ks (k + 1) xs else ev ks (k + 1) xs
theorem ev_yes {ks : List Int} {xs : List NV} {k : Nat} (h : k < xs.length) (hk : (gn xs k).nd.kind ∈ ks) : ev ks k (xs.drop k) = (k, gn xs k) :: ev ks (k + 1) (xs.drop (k + 1)) := by
 rw [drop_gn h, ev, if_pos hk]
theorem ev_no {ks : List Int} {xs : List NV} {k : Nat} (h : k < xs.length) (hk : (gn xs k).nd.kind ∉ ks) : ev ks k (xs.drop k) = ev ks (k + 1) (xs.drop (k + 1)) := by
 rw [drop_gn h, ev, if_neg hk]
theorem grown_of_below {w w' : World} (h : Below w.heap.size w w') : w.grownBy w' none := ⟨h.os, h.tape, h.output, h.size, fun i hi _ => h.block i hi⟩
theorem cell_putObj {w : World} {a : Addr} {v : Value} (h : w.cell? a = some v) {k : Nat} {o : Obj} (o' : Obj) (hk : w.heap[k]? = some o) (ho : o.isCells = false) : (w.putObj k o').cell? a = some v :=
 cell_kept h (grownBy_putObj' w k o') (fun r e => by cases e; exact ⟨o, hk, ho⟩)
theorem slr_putObj {w : World} {p : Option Addr} {l : List R} (h : SlR w p l) {k : Nat} {o : Obj} (o' : Obj) (hk : w.heap[k]? = some o) (ho : o.isCells = false) : SlR (w.putObj k o') p l := by
 rcases h with h | ⟨b, off, h1, h2⟩
 ·exact .inl h
 ·exact .inr ⟨b, off, h1, fun i hi => ⟨cell_putObj (h2 i hi).1 o' hk ho, cell_putObj (h2 i hi).2 o' hk ho⟩⟩
theorem SlN.putObj {w : World} {p : Option Addr} {xs : List NV} (h : SlN w p xs) {k : Nat} {o : Obj} (o' : Obj) (hk : w.heap[k]? = some o) (ho : o.isCells = false) : SlN (w.putObj k o') p xs := by
 refine ⟨fun x hx => ?_, ?_⟩
 ·have a := h.all x hx
  exact ⟨slr_putObj a.set o' hk ho, a.kids.putObj o' hk ho, a.sn, a.kn, a.sl, a.kl⟩
 ·rcases h.cells with h0 | ⟨b, off, h1, h2⟩
  ·exact .inl h0
  ·refine .inr ⟨b, off, h1, fun i hi => ?_⟩
   obtain ⟨c0, c1, c2, c3, c4, c5, c6, c7, c8⟩ := h2 i hi
   have k' : ∀ {a v}, w.cell? a = some v → (w.putObj k o').cell? a = some v := fun {a v} h => cell_putObj h o' hk ho
   exact ⟨k' c0, k' c1, k' c2, k' c3, k' c4, k' c5, k' c6, k' c7, k' c8⟩
theorem SlU.putObj {w : World} {p : Option Addr} {l : List Int} (h : SlU w p l) {k : Nat} {o : Obj} (o' : Obj) (hk : w.heap[k]? = some o) (ho : o.isCells = false) : SlU (w.putObj k o') p l := by
 rcases h with h | ⟨b, off, h1, h2⟩
 ·exact .inl h
 ·exact .inr ⟨b, off, h1, fun i hi => cell_putObj (h2 i hi) o' hk ho⟩
def KpN (p : Option Addr) (xs : List NV) (q : Option Addr) (ks : List Int) (Bs Bk : Nat) (W W' : World) : Prop := (SlN W p xs → SlN W' p xs) ∧ (SlU W q ks → SlU W' q ks) ∧ ∀ b T cs, b = Bs ∨ b = Bk → Bx W b T cs → Bx W' b T cs
theorem KpN.trans {p : Option Addr} {xs : List NV} {q : Option Addr} {ks : List Int} {Bs Bk : Nat} {a b c : World} (h : KpN p xs q ks Bs Bk a b) (k : KpN p xs q ks Bs Bk b c) : KpN p xs q ks Bs Bk a c := ⟨fun x => k.1 (h.1 x), fun x => k.2.1 (h.2.1 x), fun i T cs hi hv => k.2.2 i T cs hi (h.2.2 i T cs hi hv)⟩
theorem KpN.of_below {p : Option Addr} {xs : List NV} {q : Option Addr} {ks : List Int} {Bs Bk : Nat} {a b : World} (h : Below a.heap.size a b) : KpN p xs q ks Bs Bk a b := ⟨fun x => x.below h, fun x => x.below h, fun _ _ _ _ hv => hv.below h⟩
theorem kpn_b {p : Option Addr} {xs : List NV} {q : Option Addr} {ks : List Int} {Bs Bk : Nat} {w : World} (W : World) (l : Nat) (o o' : Obj) (_ : w.heap.size ≤ l) (h : W.heap[l]? = some o) (hc : o.isCells = false) (_ : o.isWalk = false) : KpN p xs q ks Bs Bk W (W.putObj l o') :=
 ⟨fun x => x.putObj o' h hc, fun x => x.putObj o' h hc, fun _ _ _ _ hv => bx_putObj hv o' h hc⟩

theorem each_any (p : Option Addr) (n c : Nat) (q : Option Addr) (m d : Nat) (w : World) :
  Calls Tryz.prog 67 #[.slice p n c, .slice q m d] w fun e w' => e = .returned (.func (.func 117) #[] #[.pointer (some ⟨w.heap.size, 0, none⟩), .pointer (some ⟨w.heap.size + 1, 0, none⟩)]) ∧ w' = (w.alloc (.cells #[.slice p n c] 60)).alloc (.cells #[.slice q m d] 154) := by
 go_enter Tryz.func67, Tryz.ntmps67
 go_wp2
 go_ret
 exact ⟨rfl, rfl⟩

theorem each1_in (n l Bs Bk : Nat) (p : Option Addr) (m c : Nat) (xs : List NV) (q : Option Addr) (mk d : Nat) (ks : List Int) (hm : m = xs.length) (hld : m ≤ 1000000) (hmk : mk = ks.length) (hlk : mk ≤ 1000000) (hn : 1 ≤ n) (J Jx : List (Nat × NV) → World → Prop)
  (hY : ∀ pre x W, J pre W → pre.length < (ev ks 0 xs).length → YieldAt Fence.wide (n - 1) Tryz.prog l #[.int .i64 (x.1 : Nat), .agg (encN x.2).toArray] W fun e W' =>
   (e = .returned (.bool true) ∧ J (pre ++ [x]) W' ∧ KpN p xs q ks Bs Bk W W') ∨ (e = .returned (.bool false) ∧ Jx (pre ++ [x]) W'))
  (W : World) (hJ : AbidesFrom W.heap.size J) (hBs : Bx W Bs 60 #[.slice p m c]) (hBk : Bx W Bk 154 #[.slice q mk d]) (hL : SlN W p xs) (hU : SlU W q ks) (h0 : J [] W) :
  CallsIn Fence.wide n Tryz.prog 117 #[.func (.yield l) #[] #[], .pointer (some ⟨Bs, 0, none⟩), .pointer (some ⟨Bk, 0, none⟩)] W fun e W' => (∃ v, e = .returned v) ∧
   ((∃ ys, ys = ev ks 0 xs ∧ J ys W') ∨ (∃ pre, pre <+: ev ks 0 xs ∧ Jx pre W')) := by
 have hmI : (m : Int) ≤ 1000000 := by omega
 have HM := lh hm
 have HMK := lh (And.intro hmk hlk)
 have HL := lh (And.intro hL hU)
 have HBS := lh (And.intro hBs hBk)
 have HY := lh hY
 have HJ := lh hJ
 have H0 := lh h0
 have hc : W.cell? ⟨Bs, 0, none⟩ = some (.slice p m c) := hBs.cell rfl
 clear hm hL hU hY hJ h0 hBs hBk hld hmk hlk
 refine callsIn_of_wp Tryz.func117 rfl trivial ?_ rfl
 simp only [Tryz.ntmps117, List.size_toArray, List.length_cons, List.length_nil, Nat.reduceAdd, Nat.reduceSub, Array.replicate_succ, Array.replicate_zero, List.push_toArray, List.append_toArray, List.nil_append, List.cons_append]
 gi_wp2
 gi_loopw [8] (fun iv wr => ∃ (k : Nat) (pre : List (Nat × NV)), k ≤ m ∧ iv = .int .i64 (k : Nat) ∧ Hid (pre ++ ev ks k (xs.drop k) = ev ks 0 xs) ∧ Hid (J pre wr) ∧ Hid (KpN p xs q ks Bs Bk W wr)) (fun iv _ => m - (intOf iv).toNat)
 case atStart => exact ⟨0, [], Nat.zero_le _, rfl, rfl, H0.out, ⟨fun h => h, fun h => h, fun _ _ _ _ h => h⟩⟩
 case round =>
  obtain ⟨k, pre, hk, rfl, HE, HJP, HK⟩ := hrel
  rename World => wr
  clear hc
  by_cases hkm : k < m
  ·have hkx : k < xs.length := by have := HM.out; omega
   obtain ⟨b, o, rfl, hcells, hin⟩ := (HK.out.1 HL.out.1).at hkx
   have hkI : (k : Int) < m := by omega
   obtain ⟨x, hx⟩ : ∃ x, x = gn xs k := ⟨_, rfl⟩
   rw [← hx] at hcells
   obtain ⟨ls, hls⟩ : ∃ n, n = x.nd.set.length := ⟨_, rfl⟩
   obtain ⟨lk, hlk⟩ : ∃ n, n = x.nd.kids.length := ⟨_, rfl⟩
   obtain ⟨c0, c1, c2, c3, c4, c5, c6, c7, c8⟩ := hcells
   rw [← hls] at c1
   rw [← hlk] at c2
   obtain ⟨bx, hbx⟩ : ∃ b, b = wr.heap.size := ⟨_, rfl⟩
   obtain ⟨w1, hw1⟩ : ∃ X, X = wr.alloc (.cells #[.int .u8 x.nd.kind, .slice x.ps ls x.cs, .slice x.pk lk x.ck, .int .i64 x.nd.group, .int .i64 x.nd.mn, .int .i64 x.nd.mx, .int .u8 x.nd.mode, .int .u8 x.nd.spot, .bool x.nd.neg] 28) := ⟨_, rfl⟩
   have hb1 : Below wr.heap.size wr w1 := by rw [hw1]; exact bl_alloc _ _
   have hbox : Bx w1 bx 28 #[.int .u8 x.nd.kind, .slice x.ps ls x.cs, .slice x.pk lk x.ck, .int .i64 x.nd.group, .int .i64 x.nd.mn, .int .i64 x.nd.mx, .int .u8 x.nd.mode, .int .u8 x.nd.spot, .bool x.nd.neg] := by rw [hw1, hbx]; exact Bx.new _ _ _
   have kc : w1.cell? ⟨Bk, 0, none⟩ = some (.slice q mk d) := ((HK.out.2.2 Bk _ _ (.inr rfl) HBS.out.2).below hb1).cell rfl
   rw [hw1] at kc
   have HCO := lh (containsK_any q d mk ks x.nd.kind w1 HMK.out.1 ((HK.out.2.1 HL.out.2).below hb1) HMK.out.2)
   have HBOX := lh hbox
   have HB1 := lh hb1
   have HW1 := lh hw1
   have HX := lh (And.intro hx hkx)
   have HEN : Hid ((encN x).toArray = #[.int .u8 x.nd.kind, .slice x.ps ls x.cs, .slice x.pk lk x.ck, .int .i64 x.nd.group, .int .i64 x.nd.mn, .int .i64 x.nd.mx, .int .u8 x.nd.mode, .int .u8 x.nd.spot, .bool x.nd.neg]) := by show _ = _; rw [hls, hlk]; rfl
   have HBB := lh hbx
   clear hin hx hkx hls hlk hb1 hbox hw1 hbx
   gi_wp2_with fail
   rw [← HBB.out, ← HW1.out]
   refine ⟨trivial, callsIn_wide.2 (HCO.out.mono ?_)⟩
   rintro e w' ⟨⟨bb, rfl, hbb⟩, rfl⟩
   have HBBK := lh hbb
   obtain ⟨d0, d1, d2, d3, d4, d5, d6, d7, d8⟩ := nine HBOX.out
   have HK1 := lh (HK.out.trans (KpN.of_below HB1.out))
   have hJ1 : J pre w' := HJ.out pre wr w' none HJP.out (grown_of_below HB1.out) (fun r e => by cases e)
   cases bb with
   | true =>
    have hmem : x.nd.kind ∈ ks := hbb.1 rfl
    have hE2 : (pre ++ [(k, x)]) ++ ev ks (k + 1) (xs.drop (k + 1)) = ev ks 0 xs := by
     have h1 := ev_yes (ks := ks) HX.out.2 (by rw [← HX.out.1]; exact hmem)
     have h2 := HE.out
     rw [h1, ← HX.out.1] at h2
     rw [List.append_assoc]; exact h2
    have hlen : pre.length < (ev ks 0 xs).length := by rw [← hE2]; simp
    have HE2 := lh hE2
    have HKM := lh hkm
    obtain ⟨fn, tmps, assign, body, hy, hR⟩ := HY.out pre (k, x) w' hJ1 hlen
    dsimp only at hy
    rw [HEN.out] at hy
    clear hbb hmem hE2 hlen hJ1 hkm c0 c1 c2 c3 c4 c5 c6 c7 c8 kc
    gi_wp2
    refine hR.mono ?_
    rintro e W3 (⟨rfl, hJ3, hk3⟩ | ⟨rfl, hJx3⟩)
    ·gi_wp2
     go_roundw
     case rel => exact ⟨k + 1, pre ++ [(k, x)], by have := HKM.out; omega, by go_num, HE2.out, hJ3, HK1.out.trans hk3⟩
     case measure => have := HKM.out; simp [intOf]; omega
    ·gi_wp2
     refine bodyPost_ret (results_none rfl _ _ _) rfl ?_
     exact ⟨⟨_, rfl⟩, .inr ⟨pre ++ [(k, x)], ⟨_, HE2.out⟩, hJx3⟩⟩
   | false =>
    have hmem : x.nd.kind ∉ ks := fun h => by have := hbb.2 h; cases this
    have HE2 : Hid (pre ++ ev ks (k + 1) (xs.drop (k + 1)) = ev ks 0 xs) := by
     show _ = _
     rw [← HE.out, ev_no (ks := ks) HX.out.2 (by rw [← HX.out.1]; exact hmem)]
    have HJ1 := lh hJ1
    have HKM := lh hkm
    clear hbb hmem hJ1 hkm c0 c1 c2 c3 c4 c5 c6 c7 c8 kc
    gi_wp2
    refine ⟨fun _ h => (by cases h), ?_⟩
    gi_wp2
    go_roundw
    case rel => exact ⟨k + 1, pre, by have := HKM.out; omega, by go_num, HE2.out, HJ1.out, HK1.out⟩
    case measure => have := HKM.out; simp [intOf]; omega
  ·have hkI : (m : Int) ≤ k := by omega
   gi_wp2
   go_end0
   have e1 := HE.out
   rw [List.drop_eq_nil_of_le (by have := HM.out; omega)] at e1
   exact ⟨⟨_, rfl⟩, .inl ⟨pre, by rw [← e1]; simp [ev], HJP.out⟩⟩
theorem each_stops (n Bs Bk : Nat) (p : Option Addr) (m c : Nat) (xs : List NV) (q : Option Addr) (mk d : Nat) (ks : List Int) (hm : m = xs.length) (hld : m ≤ 1000000) (hmk : mk = ks.length) (hlk : mk ≤ 1000000) (hn : 1 ≤ n) (w : World) (hBs : Bx w Bs 60 #[.slice p m c]) (hBk : Bx w Bk 154 #[.slice q mk d]) (hL : SlN w p xs) (hU : SlU w q ks) :
  SeqStopsK Fence.wide n Tryz.prog 117 #[.pointer (some ⟨Bs, 0, none⟩), .pointer (some ⟨Bk, 0, none⟩)] (fun x : Nat × NV => #[.int .i64 (x.1 : Nat), .agg (encN x.2).toArray]) (KpN p xs q ks Bs Bk) (fun ys => ys = ev ks 0 xs) (fun pre => pre <+: ev ks 0 xs) (ev ks 0 xs).length w :=
 fun l J Jx W hW hJ _ hY h0 => each1_in n l Bs Bk p m c xs q mk d ks hm hld hmk hlk hn J Jx hY W hJ (hBs.below hW) (hBk.below hW) (hL.below hW) (hU.below hW) h0
end Go.Proofs.YtkefndfgkmdphaaGreat

