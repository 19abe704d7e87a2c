/- The walks of slices.Contains at kinds of nodes, at modes, at texts; slices.Min, slices.Max. -/
import Derived.Test.YtjpccmiaimkmbaaGreatLj

namespace Go.Proofs.YtjpccmiaimkmbaaGreat
open Go.RowKit Tnr Tnt

def SlU (w : World) (p : Option Addr) (l : List Int) : Prop :=
  l = [] ∨ ∃ b off, p = some ⟨b, off, none⟩ ∧ ∀ i, i < l.length → w.cell? ⟨b, off + i, none⟩ = some (.int .u8 (gz l i))
theorem SlU.below {w w' : World} {p : Option Addr} {l : List Int} (h : SlU w p l) (hb : Below w.heap.size w w') : SlU w' p l := by
  rcases h with h | ⟨b, off, h1, h2⟩
  · exact .inl h
  · exact .inr ⟨b, off, h1, fun i hi => by rw [hb.cell (World.block_lt_of_cell? w _ (h2 i hi))]; exact h2 i hi⟩
theorem slu_at {w : World} {p : Option Addr} {l : List Int} (h : SlU w p l) {k : Nat} (hk : k < l.length) : ∃ b off, p = some ⟨b, off, none⟩ ∧ w.cell? ⟨b, off + k, none⟩ = some (.int .u8 (gz l k)) := by
  rcases h with h | ⟨b, off, h1, h2⟩
  · rw [h] at hk; simp at hk
  · exact ⟨b, off, h1, h2 k hk⟩
theorem slu_new (w : World) (l : List Int) (T : TypeId) (cs : Array Value) (hcs : cs = (l.map (Value.int .u8)).toArray) : SlU (w.alloc (.cells cs T)) (some ⟨w.heap.size, 0, none⟩) l := by
  refine .inr ⟨w.heap.size, 0, rfl, fun i hi => ?_⟩
  rw [Nat.zero_add, World.cell?_alloc_at _ _ _ _ rfl, hcs]
  simp [hi, gz_get hi]
def gb (l : List ByteArray) (i : Nat) : ByteArray := l.getD i ⟨#[]⟩
theorem gb_get {l : List ByteArray} {i : Nat} (h : i < l.length) : gb l i = l[i] := by
  unfold gb
  rw [List.getD_eq_getElem?_getD, List.getElem?_eq_getElem h]; rfl
def SlX (w : World) (p : Option Addr) (l : List ByteArray) : Prop :=
  l = [] ∨ ∃ b off, p = some ⟨b, off, none⟩ ∧ ∀ i, i < l.length → w.cell? ⟨b, off + i, none⟩ = some (.string (gb l i))
theorem SlX.below {w w' : World} {p : Option Addr} {l : List ByteArray} (h : SlX w p l) (hb : Below w.heap.size w w') : SlX w' p l := by
  rcases h with h | ⟨b, off, h1, h2⟩
  · exact .inl h
  · exact .inr ⟨b, off, h1, fun i hi => by rw [hb.cell (World.block_lt_of_cell? w _ (h2 i hi))]; exact h2 i hi⟩
theorem slx_at {w : World} {p : Option Addr} {l : List ByteArray} (h : SlX w p l) {k : Nat} (hk : k < l.length) : ∃ b off, p = some ⟨b, off, none⟩ ∧ w.cell? ⟨b, off + k, none⟩ = some (.string (gb l k)) := by
  rcases h with h | ⟨b, off, h1, h2⟩
  · rw [h] at hk; simp at hk
  · exact ⟨b, off, h1, h2 k hk⟩
theorem ba_inj {a b : ByteArray} (h : a.toList = b.toList) : a = b := by
  rw [Go.ByteArray.toList_eq, Go.ByteArray.toList_eq] at h
  cases a; cases b; simp only [Array.toList_inj] at h; rw [h]
theorem mem_take_succ {α : Type} {l : List α} {k : Nat} {x a : α} (h : l.take (k + 1) = l.take k ++ [a]) : x ∈ l.take (k + 1) ↔ x ∈ l.take k ∨ x = a := by rw [h]; simp
theorem gb_take {l : List ByteArray} {k : Nat} (h : k < l.length) : l.take (k + 1) = l.take k ++ [gb l k] := by
  rw [List.take_add_one, List.getElem?_eq_getElem h, gb_get h]; rfl

set_option maxHeartbeats 800000 in
set_option maxRecDepth 100000 in
theorem indexK_any (p : Option Addr) (c n : Nat) (l : List Int) (x : Int) (w : World) (hn : n = l.length) (hp : SlU w p l) (hl : n ≤ 1000000) :
    Calls Tryz.prog 136 #[.slice p n c, .int .u8 x] w fun e w' => (∃ z : Int, e = .returned (.int .i64 z) ∧ (0 ≤ z ↔ x ∈ l)) ∧ w' = w := by
  have HP := Lib.hid hp
  have HN := Lib.hid hn
  have hnI : (n : Int) ≤ 1000000 := by omega
  clear hp hn
  go_enter Tryz.func136, Tryz.ntmps136
  go_wp2
  go_loopw [8] (fun iv wr => ∃ k : Nat, k ≤ n ∧ iv = .int .i64 (k : Nat) ∧ Hid (x ∉ l.take k) ∧ wr = w) (fun iv _ => n - (intOf iv).toNat)
  case atStart => exact ⟨0, Nat.zero_le _, rfl, by show x ∉ l.take 0; simp, rfl⟩
  case round =>
    obtain ⟨k, hk, rfl, HE, rfl⟩ := hrel
    by_cases hkn : k < n
    · have hkl : k < l.length := by have := HN.out; omega
      obtain ⟨b, o, rfl, hc⟩ := slu_at HP.out hkl
      have hkI : (k : Int) < n := by omega
      obtain ⟨y, hy⟩ : ∃ y, y = gz l k := ⟨_, rfl⟩
      rw [← hy] at hc
      have HT : Hid (l.take (k + 1) = l.take k ++ [y]) := by show _ = _; rw [hy]; exact gz_take hkl
      have HM : Hid (y ∈ l) := by show y ∈ l; rw [hy]; unfold gz; rw [List.getD_eq_getElem?_getD, List.getElem?_eq_getElem hkl]; exact List.getElem_mem _
      clear hy hkl
      by_cases hxy : x = y
      · have hb : (x == y) = true := by simpa using hxy
        have HX := Lib.hid hxy
        clear hxy
        go_wp2
        go_ret
        exact ⟨⟨k, rfl, ⟨fun _ => by rw [HX.out]; exact HM.out, fun _ => by omega⟩⟩, by first | rfl | trivial⟩
      · have hb : (x == y) = false := by simpa using hxy
        have HX := Lib.hid hxy
        clear hxy
        go_wp2
        go_roundw
        case rel =>
          refine ⟨k + 1, by omega, by go_num, ?_, by first | rfl | trivial⟩
          show x ∉ l.take (k + 1)
          rw [mem_take_succ HT.out]
          exact fun h => h.elim HE.out HX.out
        case measure => simp [intOf]; omega
    · have hkI : (n : Int) ≤ k := by omega
      go_wp2
      go_ret
      refine ⟨⟨-1, rfl, ⟨fun h => by omega, fun h => absurd h ?_⟩⟩, by first | rfl | trivial⟩
      have := HE.out
      rwa [List.take_of_length_le (by have := HN.out; omega)] at this
set_option maxRecDepth 100000 in
theorem containsK_any (p : Option Addr) (c n : Nat) (l : List Int) (x : Int) (w : World) (hn : n = l.length) (hp : SlU w p l) (hl : n ≤ 1000000) :
    Calls Tryz.prog 105 #[.slice p n c, .int .u8 x] w fun e w' => (∃ b : Bool, e = .returned (.bool b) ∧ (b = true ↔ x ∈ l)) ∧ w' = w := by
  have HI := Lib.hid (indexK_any p c n l x w hn hp hl)
  clear hn hp hl
  go_enter Tryz.func105, Tryz.ntmps105
  go_wp2_with fail
  refine HI.out.mono ?_
  rintro e w' ⟨⟨z, rfl, hz⟩, rfl⟩
  have HZ := Lib.hid hz
  clear hz
  go_wp2
  go_ret
  exact ⟨⟨_, rfl, by rw [← HZ.out]; simp⟩, rfl⟩

set_option maxHeartbeats 800000 in
set_option maxRecDepth 100000 in
theorem indexM_any (p : Option Addr) (c n : Nat) (l : List Int) (x : Int) (w : World) (hn : n = l.length) (hp : SlU w p l) (hl : n ≤ 1000000) :
    Calls Tryz.prog 191 #[.slice p n c, .int .u8 x] w fun e w' => (∃ z : Int, e = .returned (.int .i64 z) ∧ (0 ≤ z ↔ x ∈ l)) ∧ w' = w := by
  have HP := Lib.hid hp
  have HN := Lib.hid hn
  have hnI : (n : Int) ≤ 1000000 := by omega
  clear hp hn
  go_enter Tryz.func191, Tryz.ntmps191
  go_wp2
  go_loopw [8] (fun iv wr => ∃ k : Nat, k ≤ n ∧ iv = .int .i64 (k : Nat) ∧ Hid (x ∉ l.take k) ∧ wr = w) (fun iv _ => n - (intOf iv).toNat)
  case atStart => exact ⟨0, Nat.zero_le _, rfl, by show x ∉ l.take 0; simp, rfl⟩
  case round =>
    obtain ⟨k, hk, rfl, HE, rfl⟩ := hrel
    by_cases hkn : k < n
    · have hkl : k < l.length := by have := HN.out; omega
      obtain ⟨b, o, rfl, hc⟩ := slu_at HP.out hkl
      have hkI : (k : Int) < n := by omega
      obtain ⟨y, hy⟩ : ∃ y, y = gz l k := ⟨_, rfl⟩
      rw [← hy] at hc
      have HT : Hid (l.take (k + 1) = l.take k ++ [y]) := by show _ = _; rw [hy]; exact gz_take hkl
      have HM : Hid (y ∈ l) := by show y ∈ l; rw [hy]; unfold gz; rw [List.getD_eq_getElem?_getD, List.getElem?_eq_getElem hkl]; exact List.getElem_mem _
      clear hy hkl
      by_cases hxy : x = y
      · have hb : (x == y) = true := by simpa using hxy
        have HX := Lib.hid hxy
        clear hxy
        go_wp2
        go_ret
        exact ⟨⟨k, rfl, ⟨fun _ => by rw [HX.out]; exact HM.out, fun _ => by omega⟩⟩, by first | rfl | trivial⟩
      · have hb : (x == y) = false := by simpa using hxy
        have HX := Lib.hid hxy
        clear hxy
        go_wp2
        go_roundw
        case rel =>
          refine ⟨k + 1, by omega, by go_num, ?_, by first | rfl | trivial⟩
          show x ∉ l.take (k + 1)
          rw [mem_take_succ HT.out]
          exact fun h => h.elim HE.out HX.out
        case measure => simp [intOf]; omega
    · have hkI : (n : Int) ≤ k := by omega
      go_wp2
      go_ret
      refine ⟨⟨-1, rfl, ⟨fun h => by omega, fun h => absurd h ?_⟩⟩, by first | rfl | trivial⟩
      have := HE.out
      rwa [List.take_of_length_le (by have := HN.out; omega)] at this
set_option maxRecDepth 100000 in
theorem containsM_any (p : Option Addr) (c n : Nat) (l : List Int) (x : Int) (w : World) (hn : n = l.length) (hp : SlU w p l) (hl : n ≤ 1000000) :
    Calls Tryz.prog 179 #[.slice p n c, .int .u8 x] w fun e w' => (∃ b : Bool, e = .returned (.bool b) ∧ (b = true ↔ x ∈ l)) ∧ w' = w := by
  have HI := Lib.hid (indexM_any p c n l x w hn hp hl)
  clear hn hp hl
  go_enter Tryz.func179, Tryz.ntmps179
  go_wp2_with fail
  refine HI.out.mono ?_
  rintro e w' ⟨⟨z, rfl, hz⟩, rfl⟩
  have HZ := Lib.hid hz
  clear hz
  go_wp2
  go_ret
  exact ⟨⟨_, rfl, by rw [← HZ.out]; simp⟩, rfl⟩

set_option maxHeartbeats 800000 in
set_option maxRecDepth 100000 in
theorem indexX_any (p : Option Addr) (c n : Nat) (l : List ByteArray) (x : ByteArray) (w : World) (hn : n = l.length) (hp : SlX w p l) (hl : n ≤ 1000000) :
    Calls Tryz.prog 166 #[.slice p n c, .string x] w fun e w' => (∃ z : Int, e = .returned (.int .i64 z) ∧ (0 ≤ z ↔ x ∈ l)) ∧ w' = w := by
  have HP := Lib.hid hp
  have HN := Lib.hid hn
  have hnI : (n : Int) ≤ 1000000 := by omega
  clear hp hn
  go_enter Tryz.func166, Tryz.ntmps166
  go_wp2
  go_loopw [8] (fun iv wr => ∃ k : Nat, k ≤ n ∧ iv = .int .i64 (k : Nat) ∧ Hid (x ∉ l.take k) ∧ wr = w) (fun iv _ => n - (intOf iv).toNat)
  case atStart => exact ⟨0, Nat.zero_le _, rfl, by show x ∉ l.take 0; simp, rfl⟩
  case round =>
    obtain ⟨k, hk, rfl, HE, rfl⟩ := hrel
    by_cases hkn : k < n
    · have hkl : k < l.length := by have := HN.out; omega
      obtain ⟨b, o, rfl, hc⟩ := slx_at HP.out hkl
      have hkI : (k : Int) < n := by omega
      obtain ⟨y, hy⟩ : ∃ y, y = gb l k := ⟨_, rfl⟩
      rw [← hy] at hc
      have HT : Hid (l.take (k + 1) = l.take k ++ [y]) := by show _ = _; rw [hy]; exact gb_take hkl
      have HM : Hid (y ∈ l) := by show y ∈ l; rw [hy]; unfold gb; rw [List.getD_eq_getElem?_getD, List.getElem?_eq_getElem hkl]; exact List.getElem_mem _
      clear hy hkl
      by_cases hxy : x = y
      · have hb : (x.toList == y.toList) = true := by rw [hxy]; simp
        have HX := Lib.hid hxy
        clear hxy
        go_wp2
        go_ret
        exact ⟨⟨k, rfl, ⟨fun _ => by rw [HX.out]; exact HM.out, fun _ => by omega⟩⟩, by first | rfl | trivial⟩
      · have hb : (x.toList == y.toList) = false := by rw [beq_eq_false_iff_ne]; exact fun e => hxy (ba_inj e)
        have HX := Lib.hid hxy
        clear hxy
        go_wp2
        go_roundw
        case rel =>
          refine ⟨k + 1, by omega, by go_num, ?_, by first | rfl | trivial⟩
          show x ∉ l.take (k + 1)
          rw [mem_take_succ HT.out]
          exact fun h => h.elim HE.out HX.out
        case measure => simp [intOf]; omega
    · have hkI : (n : Int) ≤ k := by omega
      go_wp2
      go_ret
      refine ⟨⟨-1, rfl, ⟨fun h => by omega, fun h => absurd h ?_⟩⟩, by first | rfl | trivial⟩
      have := HE.out
      rwa [List.take_of_length_le (by have := HN.out; omega)] at this
set_option maxRecDepth 100000 in
theorem containsX_any (p : Option Addr) (c n : Nat) (l : List ByteArray) (x : ByteArray) (w : World) (hn : n = l.length) (hp : SlX w p l) (hl : n ≤ 1000000) :
    Calls Tryz.prog 142 #[.slice p n c, .string x] w fun e w' => (∃ b : Bool, e = .returned (.bool b) ∧ (b = true ↔ x ∈ l)) ∧ w' = w := by
  have HI := Lib.hid (indexX_any p c n l x w hn hp hl)
  clear hn hp hl
  go_enter Tryz.func142, Tryz.ntmps142
  go_wp2_with fail
  refine HI.out.mono ?_
  rintro e w' ⟨⟨z, rfl, hz⟩, rfl⟩
  have HZ := Lib.hid hz
  clear hz
  go_wp2
  go_ret
  exact ⟨⟨_, rfl, by rw [← HZ.out]; simp⟩, rfl⟩

set_option maxHeartbeats 800000 in
set_option maxRecDepth 100000 in
theorem minZ_any (p : Option Addr) (c n : Nat) (l : List Int) (w : World) (hn : n = l.length) (h1 : 1 ≤ n) (hp : SlZ w p l) (hl : n ≤ 1000000) :
    Calls Tryz.prog 58 #[.slice p n c] w fun e w' => (∃ z : Int, e = .returned (.int .i64 z) ∧ z ∈ l ∧ ∀ y ∈ l, z ≤ y) ∧ w' = w := by
  have HP := Lib.hid hp
  have HN := Lib.hid hn
  have hnI : (n : Int) ≤ 1000000 := by omega
  have hn1 : (1 : Int) ≤ n := by omega
  obtain ⟨b, o, rfl, hc0⟩ := slz_at hp (show 0 < l.length by omega)
  rw [Nat.add_zero] at hc0
  have h0z : l.take 1 = [gz l 0] := by rw [gz_take (show 0 < l.length by omega)]; rfl
  have HZ0 := Lib.hid h0z
  have H1 := Lib.hid h1
  clear hp hn h0z h1
  go_enter Tryz.func58, Tryz.ntmps58
  go_wp2
  go_loopw [3, 4] (fun mv iv wr => ∃ (k : Nat) (z : Int), 1 ≤ k ∧ k ≤ n ∧ mv = .int .i64 z ∧ iv = .int .i64 (k : Nat) ∧ Hid (z ∈ l.take k ∧ ∀ y ∈ l.take k, z ≤ y) ∧ wr = w) (fun _ iv _ => n - (intOf iv).toNat)
  case atStart => exact ⟨1, gz l 0, Nat.le_refl _, H1.out, rfl, rfl, by show _ ∧ _; rw [HZ0.out]; simp, rfl⟩
  case round =>
    obtain ⟨k, z, hk1, hk, rfl, rfl, HE, rfl⟩ := hrel
    by_cases hkn : k < n
    · have hkl : k < l.length := by have := HN.out; omega
      obtain ⟨b2, o2, hbo, hc⟩ := slz_at HP.out hkl
      simp only [Option.some.injEq, Addr.mk.injEq, and_true] at hbo
      obtain ⟨rfl, rfl⟩ := hbo
      have hkI : (k : Int) < n := by omega
      obtain ⟨y, hy⟩ : ∃ y, y = gz l k := ⟨_, rfl⟩
      rw [← hy] at hc
      have HT : Hid (l.take (k + 1) = l.take k ++ [y]) := by show _ = _; rw [hy]; exact gz_take hkl
      clear hy hkl
      go_wp2
      go_roundw
      case rel =>
        refine ⟨k + 1, _, by omega, by omega, rfl, by go_num, ?_, by first | rfl | trivial⟩
        show _ ∧ _
        rw [HT.out]
        obtain ⟨e1, e2⟩ := HE.out
        by_cases hyz : y < z
        · rw [if_pos hyz]
          refine ⟨by simp, fun x hx => ?_⟩
          rcases List.mem_append.1 hx with hx | hx
          · have := e2 x hx; omega
          · simp only [List.mem_singleton] at hx; omega
        · rw [if_neg hyz]
          refine ⟨List.mem_append.2 (.inl e1), fun x hx => ?_⟩
          rcases List.mem_append.1 hx with hx | hx
          · exact e2 x hx
          · simp only [List.mem_singleton] at hx; omega
      case measure => simp [intOf]; omega
    · have hkI : (n : Int) ≤ k := by omega
      obtain rfl : k = n := by omega
      go_wp2
      go_ret
      have e := HE.out
      rw [List.take_of_length_le (by have := HN.out; omega)] at e
      exact ⟨⟨z, rfl, e.1, e.2⟩, by first | rfl | trivial⟩

set_option maxHeartbeats 800000 in
set_option maxRecDepth 100000 in
theorem maxZ_any (p : Option Addr) (c n : Nat) (l : List Int) (w : World) (hn : n = l.length) (h1 : 1 ≤ n) (hp : SlZ w p l) (hl : n ≤ 1000000) :
    Calls Tryz.prog 59 #[.slice p n c] w fun e w' => (∃ z : Int, e = .returned (.int .i64 z) ∧ z ∈ l ∧ ∀ y ∈ l, y ≤ z) ∧ w' = w := by
  have HP := Lib.hid hp
  have HN := Lib.hid hn
  have hnI : (n : Int) ≤ 1000000 := by omega
  have hn1 : (1 : Int) ≤ n := by omega
  obtain ⟨b, o, rfl, hc0⟩ := slz_at hp (show 0 < l.length by omega)
  rw [Nat.add_zero] at hc0
  have h0z : l.take 1 = [gz l 0] := by rw [gz_take (show 0 < l.length by omega)]; rfl
  have HZ0 := Lib.hid h0z
  have H1 := Lib.hid h1
  clear hp hn h0z h1
  go_enter Tryz.func59, Tryz.ntmps59
  go_wp2
  go_loopw [3, 4] (fun mv iv wr => ∃ (k : Nat) (z : Int), 1 ≤ k ∧ k ≤ n ∧ mv = .int .i64 z ∧ iv = .int .i64 (k : Nat) ∧ Hid (z ∈ l.take k ∧ ∀ y ∈ l.take k, y ≤ z) ∧ wr = w) (fun _ iv _ => n - (intOf iv).toNat)
  case atStart => exact ⟨1, gz l 0, Nat.le_refl _, H1.out, rfl, rfl, by show _ ∧ _; rw [HZ0.out]; simp, rfl⟩
  case round =>
    obtain ⟨k, z, hk1, hk, rfl, rfl, HE, rfl⟩ := hrel
    by_cases hkn : k < n
    · have hkl : k < l.length := by have := HN.out; omega
      obtain ⟨b2, o2, hbo, hc⟩ := slz_at HP.out hkl
      simp only [Option.some.injEq, Addr.mk.injEq, and_true] at hbo
      obtain ⟨rfl, rfl⟩ := hbo
      have hkI : (k : Int) < n := by omega
      obtain ⟨y, hy⟩ : ∃ y, y = gz l k := ⟨_, rfl⟩
      rw [← hy] at hc
      have HT : Hid (l.take (k + 1) = l.take k ++ [y]) := by show _ = _; rw [hy]; exact gz_take hkl
      clear hy hkl
      go_wp2
      go_roundw
      case rel =>
        refine ⟨k + 1, _, by omega, by omega, rfl, by go_num, ?_, by first | rfl | trivial⟩
        show _ ∧ _
        rw [HT.out]
        obtain ⟨e1, e2⟩ := HE.out
        by_cases hyz : z < y
        · rw [if_pos hyz]
          refine ⟨by simp, fun x hx => ?_⟩
          rcases List.mem_append.1 hx with hx | hx
          · have := e2 x hx; omega
          · simp only [List.mem_singleton] at hx; omega
        · rw [if_neg hyz]
          refine ⟨List.mem_append.2 (.inl e1), fun x hx => ?_⟩
          rcases List.mem_append.1 hx with hx | hx
          · exact e2 x hx
          · simp only [List.mem_singleton] at hx; omega
      case measure => simp [intOf]; omega
    · have hkI : (n : Int) ≤ k := by omega
      obtain rfl : k = n := by omega
      go_wp2
      go_ret
      have e := HE.out
      rw [List.take_of_length_le (by have := HN.out; omega)] at e
      exact ⟨⟨z, rfl, e.1, e.2⟩, by first | rfl | trivial⟩
end Go.Proofs.YtjpccmiaimkmbaaGreat
