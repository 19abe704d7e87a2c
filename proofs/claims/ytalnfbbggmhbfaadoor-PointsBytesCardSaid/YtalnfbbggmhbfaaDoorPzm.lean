/- PointsBytes: the long text of "ab", its code points, and what is told of it with a byte more. -/
import Derived.Test.YtalnfbbggmhbfaaDoorPzl
import Derived.Lib.Repeat
import Derived.Test.YtalnfbbggmhbfaaDoorShelf
namespace Go.Proofs.YtalnfbbggmhbfaaDoor
open Go.RowKit Tnd

def abN : Nat → List Nat
  | 0 => []
  | c + 1 => 97 :: 98 :: abN c
theorem abN_len : ∀ c, (abN c).length = 2 * c
  | 0 => rfl
  | c + 1 => by show (abN c).length + 1 + 1 = _; rw [abN_len c]; omega
theorem abN_asc : ∀ c, ∀ x ∈ abN c, x < 128
  | 0, x, h => by cases h
  | c + 1, x, h => by
    rcases List.mem_cons.1 h with rfl | h
    · omega
    · rcases List.mem_cons.1 h with rfl | h
      · omega
      · exact abN_asc c x h
theorem ab_rep : ∀ c, Lib.repeatL [97, 98] c = (abN c).map UInt8.ofNat
  | 0 => rfl
  | c + 1 => by show [97, 98] ++ Lib.repeatL [97, 98] c = _; rw [ab_rep c]; rfl
theorem asc_encs : ∀ l : List Nat, (∀ x ∈ l, x < 128) → encs l = l.map UInt8.ofNat
  | [], _ => rfl
  | c :: l, h => by
    have h1 : enc c = [UInt8.ofNat c] := by unfold enc encN; rw [if_pos (h c (by simp))]; rfl
    show enc c ++ encs l = _
    rw [h1, asc_encs l fun x hx => h x (List.mem_cons_of_mem _ hx)]; rfl
theorem asc_ofm {l : List Nat} (h : ∀ x ∈ l, x < 128) : ofm (l.map UInt8.ofNat) = (l, none) := by
  rw [← asc_encs l h]
  exact ofm_encs l fun c hc => ⟨by have := h c hc; omega, by have := h c hc; omega⟩
theorem asc_ofR {l : List Nat} (h : ∀ x ∈ l, x < 128) (hl : l.length ≤ 65536) : ofR (l.map UInt8.ofNat) = (l, 0, 0) :=
  ofR_ok (by simp; omega) (asc_ofm h)
theorem ofm_ff : ofm [255] = ([], some [255]) := by kernel_rfl
theorem asc_bad {l : List Nat} (h : ∀ x ∈ l, x < 128) (hl : l.length + 1 ≤ 65536) : ofR (l.map UInt8.ofNat ++ [255]) = ([], l.length, 4) := by
  have h1 := ofm_append _ (l.map UInt8.ofNat) [255] l (Nat.le_refl _) (asc_ofm h)
  rw [ofm_ff] at h1
  rw [ofR_bad (by simp; omega) h1]
  simp
theorem asc_encI : ∀ l : List Nat, (∀ x ∈ l, x < 128) → encI (ints l) = l
  | [], _ => rfl
  | c :: l, h => by
    have h1 : encN c = [c] := by unfold encN; rw [if_pos (h c (by simp))]
    show encN (Int.toNat (Int.ofNat c)) ++ encI (ints l) = _
    rw [show (Int.ofNat c).toNat = c from rfl, h1, asc_encI l fun x hx => h x (List.mem_cons_of_mem _ hx)]; rfl
theorem asc_long {l : List Nat} (h : ∀ x ∈ l, x < 128) (hl : 65536 < l.length) : textR (ints l) = ([], false) := by
  unfold textR
  rw [if_neg]
  rintro ⟨_, h2⟩
  rw [asc_encI l h] at h2
  omega
/-- the long text. -/
def longS (c : Nat) : ByteArray := ⟨(Lib.repeatL [97, 98] c).toArray⟩
theorem long_data (c : Nat) : (longS c).data.toList = (abN c).map UInt8.ofNat := by
  unfold longS; rw [ab_rep]
theorem long_size (c : Nat) : (longS c).size = 2 * c := by
  show (Lib.repeatL [97, 98] c).toArray.size = _
  rw [List.size_toArray, Lib.repeatL_length]; simp; omega
theorem long_of (c : Nat) (hc : c = 32768) : ofR (longS c).data.toList = (abN c, 0, 0) := by
  rw [long_data]; exact asc_ofR (abN_asc c) (by rw [abN_len]; omega)
theorem long_a (c : Nat) (hc : c = 32768) : ofR (longS c ++ ⟨#[97]⟩).data.toList = ([], 0, 3) :=
  ofR_long (by rw [both_data, long_data]; simp [abN_len]; omega)
theorem long_ff (c : Nat) (hc : c = 32768) (t : ByteArray) (ht : t.data.toList = (longS c).data.toList.drop 1) : ofR (t ++ ⟨#[255]⟩).data.toList = ([], 65535, 4) := by
  rw [both_data, ht, long_data, List.drop_one, ← List.map_tail]
  have h := asc_bad (l := (abN c).tail) (fun x hx => abN_asc c x (List.mem_of_mem_tail hx)) (by rw [List.length_tail, abN_len]; omega)
  rw [List.length_tail, abN_len] at h
  rw [show 2 * c - 1 = 65535 by omega] at h
  exact h
theorem long_more (c : Nat) (hc : c = 32768) : textR (ints (abN c ++ [97])) = ([], false) :=
  asc_long (fun x hx => by
    rcases List.mem_append.1 hx with h | h
    · exact abN_asc c x h
    · have := List.mem_singleton.1 h; omega) (by rw [List.length_append, abN_len]; simp; omega)
theorem long_rep (w : World) (c : Nat) (hc : c = 32768) : Calls Tryd.prog 9 #[.string ⟨#[97, 98]⟩, .int .i64 32768] w fun e w' => e = .returned (.string (longS c)) ∧ Below w.heap.size w w' := by
  have h := Tryd.strings_Repeat_main ⟨#[97, 98]⟩ c w (by omega) (by omega) (by show 2 * c ≤ 140737488355328; omega) (by decide)
  rw [show ((c : Nat) : Int) = 32768 by omega] at h
  exact h
/-- what the walk asks of the long text. -/
theorem long1 (c : Nat) (hc : c = 32768) (n : Nat) (hn : n = 65536) (w : World) (hL : LeadsIn w) : Calls Tryd.prog 4 #[.string (longS c)] w fun e w' => ∃ p q, e = .returned (.tuple #[.slice p n q, .int .i64 0, .int .i64 0]) ∧ Own w' w.heap.size 3 .i64 (.slice p n q) (abN c) ∧ Below w.heap.size w w' := by
  have hl : (abN c).length = n := by rw [abN_len]; omega
  have h := of_at (longS c) w (abN c) 0 0 (by rw [long_size]; omega) hL (long_of c hc)
  rw [hl] at h
  exact h
theorem long2 (c : Nat) (hc : c = 32768) (w : World) (hL : LeadsIn w) : Calls Tryd.prog 4 #[.string (longS c ++ ⟨#[97]⟩)] w fun e w' => ∃ p q, e = .returned (.tuple #[.slice p 0 q, .int .i64 0, .int .i64 3]) ∧ Below w.heap.size w w' := by
  have h97 : (⟨#[97]⟩ : ByteArray).size = 1 := rfl
  have h := of_at (longS c ++ ⟨#[97]⟩) w [] 0 3 (by rw [ByteArray.size_append, long_size, h97]; omega) hL (long_a c hc)
  exact h.mono fun e w' ⟨p, q, h1, _, h2⟩ => ⟨p, q, h1, h2⟩
theorem long3 (c : Nat) (hc : c = 32768) (n : Nat) (hn : n = 65535) (w : World) (hL : LeadsIn w) : Calls Tryd.prog 4 #[.string ((longS c).extract 1 (longS c).size ++ ⟨#[255]⟩)] w fun e w' => ∃ p q, e = .returned (.tuple #[.slice p 0 q, .int .i64 (n : Nat), .int .i64 4]) ∧ Below w.heap.size w w' := by
  have hff : (⟨#[255]⟩ : ByteArray).size = 1 := rfl
  have h0 := long_ff c hc ((longS c).extract 1 (longS c).size) (by rw [Lib.extract_to_end])
  rw [← hn] at h0
  have hsz : ((longS c).extract 1 (longS c).size ++ ⟨#[255]⟩).size = min (2 * c) (2 * c) - 1 + 1 := by rw [ByteArray.size_append, ByteArray.size_extract, long_size, hff]
  have hle : ((longS c).extract 1 (longS c).size ++ ⟨#[255]⟩).size ≤ 9223372036854775807 := by omega
  clear hsz
  generalize (longS c).extract 1 (longS c).size ++ ⟨#[255]⟩ = s at h0 hle ⊢
  exact (of_at s w [] n 4 hle hL h0).mono fun e w' ⟨p, q, h1, _, h2⟩ => ⟨p, q, h1, h2⟩
theorem long4 (c : Nat) (hc : c = 32768) (n : Nat) (hn : n = 65536) (w : World) (B : Nat) (p : Option Addr) (q : Nat) (ho : Own w B 3 .i64 (.slice p n q) (abN c)) (hS : SizesIn w) : Calls Tryd.prog 10 #[.slice p n q] w fun e w' => e = .returned (.tuple #[.string (longS c), .bool true]) ∧ Below w.heap.size w w' := by
  have hl : (abN c).length = n := by rw [abN_len]; omega
  rw [← hl] at ho ⊢
  exact text_own p q (abN c) w B ho (by rw [abN_len]; omega) hS (longS c) (long_of c hc)
theorem long5 (c : Nat) (hc : c = 32768) (n : Nat) (hn : n = 65537) (w : World) (p : Option Addr) (q : Nat) (hp : SlI w p (ints (abN c ++ [97]))) (hS : SizesIn w) : Calls Tryd.prog 10 #[.slice p n q] w fun e w' => e = .returned (.tuple #[.string ⟨#[]⟩, .bool false]) ∧ Below w.heap.size w w' := by
  have hl : (ints (abN c ++ [97])).length = n := by rw [ints_length, List.length_append, abN_len]; simp; omega
  have h := text_at p q (ints (abN c ++ [97])) w hp (by rw [hl]; omega) hS [] false (long_more c hc)
  rw [hl] at h
  exact h
/-- the row of the long text's code points, one more put behind it. -/
theorem long_join (c : Nat) (hc : c = 32768) (n : Nat) (hn : n = 65536) (w : World) (B : Nat) (p : Option Addr) (q : Nat) (ho : Own w B 3 .i64 (.slice p n q) (abN c)) (hB : B ≤ w.heap.size) (T : TypeId) :
    ∃ p' q' w', (Builtin.append_ #[24, 24] T #[.slice p n q, .slice (some ⟨w.heap.size, 0, none⟩) 1 1]).run Tryd.prog (w.alloc (.cells #[.int .i64 97] 3)) = .ok (.slice p' (n + 1) q') w' ∧ SlI w' p' (ints (abN c ++ [97])) ∧ Below B (w.alloc (.cells #[.int .i64 97] 3)) w' := by
  have hsl : Sl (w.alloc (.cells #[.int .i64 97] 3)) .i64 (some ⟨w.heap.size, 0, none⟩) [97] := .inr ⟨w.heap.size, 0, rfl, fun i hi => by
    rw [Nat.zero_add, World.cell?_alloc_at _ _ _ _ rfl]
    match i, hi with
    | 0, _ => rfl⟩
  obtain ⟨v', w', h1, h2, h3⟩ := run_join (a := [97]) (cq := 1) T (own_below ho (bl_alloc w (.cells #[.int .i64 97] 3))) hsl (fun h => by cases h) (by rw [abN_len]; simp; omega) (by rw [World.size_alloc]; omega)
  obtain ⟨p', q', e, _, _, _, _, _⟩ := own_form h2
  subst e
  have hl : (abN c ++ [97]).length = n + 1 := by rw [List.length_append, abN_len]; simp; omega
  rw [hl] at h1 h2
  exact ⟨p', q', w', h1, own_sli h2, (Below.refl _ _).grown h3 (by rw [World.size_alloc]; omega) (fun k hk => (ho.lt k hk).1)⟩
def NumsIn (w : World) (b : Nat) : Prop := ∀ i, i < 18 → ∃ x : Int, w.cell? ⟨b, i, none⟩ = some (.int .i64 x)
theorem NumsIn.below {w w' : World} {b : Nat} (h : NumsIn w b) (hb : Below w.heap.size w w') : NumsIn w' b := fun i hi => by
  obtain ⟨t, h1⟩ := h i hi
  exact ⟨t, by rw [hb.cell (World.block_lt_of_cell? w _ h1)]; exact h1⟩
theorem nums_new (w : World) (T : TypeId) (cs : Array Value) (h : ∀ i, i < 18 → ∃ x : Int, cs[i]? = some (.int .i64 x)) : NumsIn (w.alloc (.cells cs T)) w.heap.size := by
  intro i hi
  rw [World.cell?_alloc_at _ _ _ _ rfl]
  exact h i hi
theorem nums_lit (w : World) (T : TypeId) : NumsIn (w.alloc (.cells #[.int .i64 (-9223372036854775808), .int .i64 (-1), .int .i64 0, .int .i64 127, .int .i64 128, .int .i64 2047, .int .i64 2048, .int .i64 55295, .int .i64 55296, .int .i64 56319, .int .i64 56320, .int .i64 57343, .int .i64 57344, .int .i64 65535, .int .i64 65536, .int .i64 1114111, .int .i64 1114112, .int .i64 9223372036854775807] T)) w.heap.size := by
  refine nums_new w T _ fun i hi => ?_
  match i, hi with
  | 0, _ => exact ⟨_, rfl⟩
  | 1, _ => exact ⟨_, rfl⟩
  | 2, _ => exact ⟨_, rfl⟩
  | 3, _ => exact ⟨_, rfl⟩
  | 4, _ => exact ⟨_, rfl⟩
  | 5, _ => exact ⟨_, rfl⟩
  | 6, _ => exact ⟨_, rfl⟩
  | 7, _ => exact ⟨_, rfl⟩
  | 8, _ => exact ⟨_, rfl⟩
  | 9, _ => exact ⟨_, rfl⟩
  | 10, _ => exact ⟨_, rfl⟩
  | 11, _ => exact ⟨_, rfl⟩
  | 12, _ => exact ⟨_, rfl⟩
  | 13, _ => exact ⟨_, rfl⟩
  | 14, _ => exact ⟨_, rfl⟩
  | 15, _ => exact ⟨_, rfl⟩
  | 16, _ => exact ⟨_, rfl⟩
  | 17, _ => exact ⟨_, rfl⟩
  | n + 18, h => exact absurd h (by omega)
end Go.Proofs.YtalnfbbggmhbfaaDoor
