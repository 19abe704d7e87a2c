/- A map of functions by numbers that the call itself makes: its entries, one behind the other; the walk of escapes. -/
import Derived.Test.YtnedbeomflllcaaYf
import Derived.Maps.OwnSet
namespace Go.Proofs.Ytnedbeomflllcaa
open Go.RowKit Tnd

/-- block b is a map: its keys and elements, in the order in which they came. -/
def MapK (w : World) (b : Nat) (K : List (Int × Value)) : Prop :=
  ∃ es clock, w.heap[b]? = some (.map es clock) ∧ es.toList.map (fun e => (e.key, e.val)) = K.map fun p => (Value.int .i64 p.1, p.2)
theorem mapK_made (w : World) : MapK (w.alloc (.map #[] 0)) w.heap.size [] := ⟨#[], 0, (MapKept.heap_alloc w _).1, rfl⟩
theorem mapK_key {es : Array MapEntry} {K : List (Int × Value)} (h : es.toList.map (fun e => (e.key, e.val)) = K.map fun p => (Value.int .i64 p.1, p.2)) : ∀ x ∈ es.toList, ∃ p ∈ K, x.key = .int .i64 p.1 ∧ x.val = p.2 := by
  intro x hx
  have : (x.key, x.val) ∈ K.map fun p => (Value.int .i64 p.1, p.2) := by rw [← h]; exact List.mem_map.2 ⟨x, hx, rfl⟩
  obtain ⟨p, hp, e⟩ := List.mem_map.1 this
  simp only [Prod.mk.injEq] at e
  exact ⟨p, hp, e.1.symm, e.2.symm⟩
theorem isKey_int (k : IntKind) (a : Int) : MapKept.IsKey (.int k) (.int k a) := by simp [MapKept.IsKey]
theorem map_put {P : Program} {w : World} {b : Nat} {K : List (Int × Value)} {t kt et : TypeId} {key : Int} {val : Value} (h : MapK w b K) (hn : (K.all fun p => p.1 != key) = true) (ht : P.underlying t = some (.map kt et)) (hk : P.underlying kt = some (.int .i64)) :
    ∃ w', (Instr.mapUpdate t (.map (some b)) (.int .i64 key) val).run P w = .ok () w' ∧ MapK w' b (K ++ [(key, val)]) ∧ w.grownBy w' (some b) := by
  obtain ⟨es, clock, hb, he⟩ := h
  have hkeys : ∀ x ∈ es.toList, MapKept.IsKey (.int .i64) x.key := fun x hx => by
    obtain ⟨p, _, e, _⟩ := mapK_key he x hx
    rw [e]; exact isKey_int _ _
  have hfind : Instr.findNow (.int .i64) (.int .i64 key) es.toList 0 = some none := by
    rcases MapKept.findNow_spec (isKey_int .i64 key) es.toList 0 hkeys with h | ⟨j, e, _, h2, h3⟩
    · exact h.1
    · exfalso
      obtain ⟨p, hp, e1, _⟩ := mapK_key he e (List.mem_of_getElem? h2)
      rw [h3] at e1
      have := List.all_eq_true.1 hn p hp
      simp at e1 this
      exact this e1.symm
  refine ⟨{ w with heap := w.heap.setIfInBounds b (.map (es.push ⟨.int .i64 key, val, clock⟩) (clock + 1)) }, ?_, ⟨_, _, (MapKept.heap_set hb).1, ?_⟩, ⟨rfl, rfl, rfl, by simp, fun i _ hi => (MapKept.heap_set hb).2 i (fun e => hi (by rw [e]))⟩⟩
  · simp [Instr.mapUpdate, run_underlying ht, MapKept.run_getObj_map hb, MapKept.run_checkKey hk (isKey_int .i64 key) false 9999, MapKept.run_findKey hk hfind, MapKept.run_setObj_map _ hb, Result.andThen]
  · simp [he]
def lookK (K : List (Int × Value)) (key : Int) : Option Value := (K.find? fun p => p.1 == key).map (·.2)
theorem map_get {P : Program} {w : World} {b : Nat} {K : List (Int × Value)} {t kt et : TypeId} {key : Int} (h : MapK w b K) (hd : K.Pairwise fun p q => p.1 ≠ q.1) (ht : P.underlying t = some (.map kt et)) (hk : P.underlying kt = some (.int .i64)) (hz : (zeroValue et).run P w = .ok .nilFunc w) :
    (Instr.lookup t (.map (some b)) (.int .i64 key) true).run P w = .ok (match lookK K key with | some v => .tuple #[v, .bool true] | none => .tuple #[.nilFunc, .bool false]) w := by
  obtain ⟨es, clock, hb, he⟩ := h
  have hkeys : ∀ x ∈ es.toList, MapKept.IsKey (.int .i64) x.key := fun x hx => by
    obtain ⟨p, _, e, _⟩ := mapK_key he x hx
    rw [e]; exact isKey_int _ _
  rcases MapKept.findNow_spec (isKey_int .i64 key) es.toList 0 hkeys with ⟨h1, h2⟩ | ⟨j, e, h1, h2, h3⟩
  · have hl : lookK K key = none := by
      unfold lookK
      rw [List.find?_eq_none.2]
      · rfl
      · intro p hp e
        have : (Value.int .i64 p.1, p.2) ∈ es.toList.map (fun e => (e.key, e.val)) := by rw [he]; exact List.mem_map.2 ⟨p, hp, rfl⟩
        obtain ⟨x, hx, e2⟩ := List.mem_map.1 this
        simp only [Prod.mk.injEq] at e2
        refine h2 x hx ?_
        rw [e2.1]
        have : p.1 = key := by simpa using e
        rw [this]
    rw [hl]
    simp [Instr.lookup, run_underlying ht, MapKept.run_getObj_map hb, MapKept.run_checkKey hk (isKey_int .i64 key) _ 9999, MapKept.run_findKey hk h1, hz, Result.andThen]
  · obtain ⟨p, hp, e1, e2⟩ := mapK_key he e (List.mem_of_getElem? h2)
    rw [h3] at e1
    have hpk : p.1 = key := by simpa using e1.symm
    have hl : lookK K key = some e.val := by
      unfold lookK
      cases hf : K.find? (fun p => p.1 == key) with
      | none =>
        exfalso
        have := List.find?_eq_none.1 hf p hp
        simp [hpk] at this
      | some q =>
        have hq : q.1 = key := by simpa using List.find?_some hf
        have hqm := List.mem_of_find?_eq_some hf
        have : q = p := by
          refine Classical.byContradiction fun hne => ?_
          obtain ⟨i, hi, ei⟩ := List.getElem_of_mem hqm
          obtain ⟨j, hj, ej⟩ := List.getElem_of_mem hp
          have hij : i ≠ j := fun e => by subst e; exact hne (by rw [← ei, ← ej])
          rcases Nat.lt_or_gt_of_ne hij with h | h
          · have := List.pairwise_iff_getElem.1 hd i j hi hj h
            rw [ei, ej, hq, hpk] at this; exact this rfl
          · have := List.pairwise_iff_getElem.1 hd j i hj hi h
            rw [ei, ej, hq, hpk] at this; exact this rfl
        subst this
        show some q.2 = _
        rw [e2]
    rw [hl]
    simp [Instr.lookup, run_underlying ht, MapKept.run_getObj_map hb, MapKept.run_checkKey hk (isKey_int .i64 key) _ 9999, MapKept.run_findKey hk h1, Result.andThen]
theorem MapK.below {w w' : World} {b : Nat} {K : List (Int × Value)} (h : MapK w b K) (hb : Below w.heap.size w w') : MapK w' b K := by
  obtain ⟨es, clock, h1, h2⟩ := h
  exact ⟨es, clock, by rw [hb.block b (Array.getElem?_eq_some_iff.1 h1).1]; exact h1, h2⟩
/-- a map at work: it is the call's own; nothing else has turned. -/
def MK (w0 w : World) (K : List (Int × Value)) : Prop := MapK w w0.heap.size K ∧ Below w0.heap.size w0 w
theorem wpList_put {P : Program} {w0 : World} (w : World) {ops : Array Oper} {rest : List Oper} {o : Oper} {a : Act} {Q : Exit → Act → World → Prop}
    (hg : o.guard = none) (m x v : Operand) (t : TypeId) (hop : o.op = Op.insert t m x v ∨ o.op = Op.mapUpdate t m x v)
    (kt et : TypeId) (ht : P.underlying t = some (.map kt et)) (hk : P.underlying kt = some (.int .i64)) (K : List (Int × Value)) (hm : a.eval m = .map (some w0.heap.size)) (hown : MK w0 w K)
    (key : Int) (val : Value) (hx : a.eval x = .int .i64 key) (hv : a.eval v = val) (hn : (K.all fun p => p.1 != key) = true)
    (hK : ∀ w', MK w0 w' (K ++ [(key, val)]) → wpList P ops Q rest (a.put o.dst undef) w') :
    wpList P ops Q (o :: rest) a w := by
  refine wpList_plain hg fun K' hK' => ?_
  obtain ⟨w', hrun, r1, r2⟩ := map_put (val := val) hown.1 hn ht hk
  have hb : MK w0 w' (K ++ [(key, val)]) := ⟨r1, hown.2.grown r2 hown.2.size (fun k hk => by cases hk; exact Nat.le_refl _)⟩
  unfold Oper.wp
  rcases hop with hop | hop
  · simp [execOp, hop, hm, hx, hv, hrun, Result.andThen]
    exact hK' _ _ (hK w' hb)
  · simp [execOp, hop, hm, hx, hv, hrun, Result.andThen]
    exact hK' _ _ (hK w' hb)

def itsF (a : Int) : Value := .func (.func 27) #[.int .i64 a] #[]
def metF (f : Nat) (b : Nat) : Value := .func (.func f) #[.pointer (some ⟨b, 0, none⟩)] #[]
def esc0 (b : Nat) : List (Int × Value) := [(102, itsF 12), (110, itsF 10), (114, itsF 13), (116, itsF 9), (118, itsF 11), (99, metF 28 b), (48, metF 29 b), (120, metF 30 b), (117, metF 31 b)]
def escK (b : Nat) (i : Nat) : List (Int × Value) := esc0 b ++ (ownS.take i).map fun x => ((x.toNat : Int), itsF (x.toNat : Int))
def ownB : ByteArray := ⟨#[94, 36, 92, 46, 42, 43, 63, 40, 41, 91, 93, 123, 125, 124, 47]⟩

set_option maxHeartbeats 1600000 in
set_option maxRecDepth 100000 in
theorem escapes_any (b : Nat) (w : World) :
    Calls Try.prog 24 #[.pointer (some ⟨b, 0, none⟩)] w fun e w' => e = .returned (.map (some w.heap.size)) ∧ MK w w' (escK b 15) := by
  have hm0 : MK w (w.alloc (.map #[] 0)) [] := ⟨mapK_made w, bl_alloc _ _⟩
  have hmm := @run_makeMap Try.prog
  go_enter Try.func24, Try.ntmps24
  go_wp2_with (refine wpList_put _ rfl _ _ _ 47 (.inl rfl) 3 32 Try.underlying47 Try.underlying3 _ rfl (by assumption) _ _ rfl rfl (by rfl) ?_; intro w1 hm1)
  have HM : Hid (MK w w1 (escK b 0)) := hm1
  clear hm0 hmm hm1
  go_wp2
  go_loopw [21] (fun iv wr => ∃ (i : Nat), i ≤ 15 ∧ iv = .int .i64 (i : Nat) ∧ Hid (MK w wr (escK b i))) (fun iv _ => 15 - (intOf iv).toNat)
  case atStart => exact ⟨0, by omega, rfl, HM⟩
  case round =>
    obtain ⟨i, hi, rfl, HE⟩ := hrel
    rename World => wr
    have hcase : i = 15 ∨ i = 0 ∨ i = 1 ∨ i = 2 ∨ i = 3 ∨ i = 4 ∨ i = 5 ∨ i = 6 ∨ i = 7 ∨ i = 8 ∨ i = 9 ∨ i = 10 ∨ i = 11 ∨ i = 12 ∨ i = 13 ∨ i = 14 := by omega
    rcases hcase with rfl | rfl | rfl | rfl | rfl | rfl | rfl | rfl | rfl | rfl | rfl | rfl | rfl | rfl | rfl | rfl
    · go_wp2
      go_ret
      exact ⟨rfl, HE.out⟩
    · go_wp2_with (refine wpList_put _ rfl _ _ _ 47 (.inr rfl) 3 32 Try.underlying47 Try.underlying3 _ rfl HE.out 94 (itsF 94) (by kernel_rfl) (by kernel_rfl) (by kernel_rfl) ?_; intro w1 hm1)
      go_roundw
      case rel => exact ⟨1, by decide, rfl, hm1⟩
      case measure => simp [intOf]
    · go_wp2_with (refine wpList_put _ rfl _ _ _ 47 (.inr rfl) 3 32 Try.underlying47 Try.underlying3 _ rfl HE.out 36 (itsF 36) (by kernel_rfl) (by kernel_rfl) (by kernel_rfl) ?_; intro w1 hm1)
      go_roundw
      case rel => exact ⟨2, by decide, rfl, hm1⟩
      case measure => simp [intOf]
    · go_wp2_with (refine wpList_put _ rfl _ _ _ 47 (.inr rfl) 3 32 Try.underlying47 Try.underlying3 _ rfl HE.out 92 (itsF 92) (by kernel_rfl) (by kernel_rfl) (by kernel_rfl) ?_; intro w1 hm1)
      go_roundw
      case rel => exact ⟨3, by decide, rfl, hm1⟩
      case measure => simp [intOf]
    · go_wp2_with (refine wpList_put _ rfl _ _ _ 47 (.inr rfl) 3 32 Try.underlying47 Try.underlying3 _ rfl HE.out 46 (itsF 46) (by kernel_rfl) (by kernel_rfl) (by kernel_rfl) ?_; intro w1 hm1)
      go_roundw
      case rel => exact ⟨4, by decide, rfl, hm1⟩
      case measure => simp [intOf]
    · go_wp2_with (refine wpList_put _ rfl _ _ _ 47 (.inr rfl) 3 32 Try.underlying47 Try.underlying3 _ rfl HE.out 42 (itsF 42) (by kernel_rfl) (by kernel_rfl) (by kernel_rfl) ?_; intro w1 hm1)
      go_roundw
      case rel => exact ⟨5, by decide, rfl, hm1⟩
      case measure => simp [intOf]
    · go_wp2_with (refine wpList_put _ rfl _ _ _ 47 (.inr rfl) 3 32 Try.underlying47 Try.underlying3 _ rfl HE.out 43 (itsF 43) (by kernel_rfl) (by kernel_rfl) (by kernel_rfl) ?_; intro w1 hm1)
      go_roundw
      case rel => exact ⟨6, by decide, rfl, hm1⟩
      case measure => simp [intOf]
    · go_wp2_with (refine wpList_put _ rfl _ _ _ 47 (.inr rfl) 3 32 Try.underlying47 Try.underlying3 _ rfl HE.out 63 (itsF 63) (by kernel_rfl) (by kernel_rfl) (by kernel_rfl) ?_; intro w1 hm1)
      go_roundw
      case rel => exact ⟨7, by decide, rfl, hm1⟩
      case measure => simp [intOf]
    · go_wp2_with (refine wpList_put _ rfl _ _ _ 47 (.inr rfl) 3 32 Try.underlying47 Try.underlying3 _ rfl HE.out 40 (itsF 40) (by kernel_rfl) (by kernel_rfl) (by kernel_rfl) ?_; intro w1 hm1)
      go_roundw
      case rel => exact ⟨8, by decide, rfl, hm1⟩
      case measure => simp [intOf]
    · go_wp2_with (refine wpList_put _ rfl _ _ _ 47 (.inr rfl) 3 32 Try.underlying47 Try.underlying3 _ rfl HE.out 41 (itsF 41) (by kernel_rfl) (by kernel_rfl) (by kernel_rfl) ?_; intro w1 hm1)
      go_roundw
      case rel => exact ⟨9, by decide, rfl, hm1⟩
      case measure => simp [intOf]
    · go_wp2_with (refine wpList_put _ rfl _ _ _ 47 (.inr rfl) 3 32 Try.underlying47 Try.underlying3 _ rfl HE.out 91 (itsF 91) (by kernel_rfl) (by kernel_rfl) (by kernel_rfl) ?_; intro w1 hm1)
      go_roundw
      case rel => exact ⟨10, by decide, rfl, hm1⟩
      case measure => simp [intOf]
    · go_wp2_with (refine wpList_put _ rfl _ _ _ 47 (.inr rfl) 3 32 Try.underlying47 Try.underlying3 _ rfl HE.out 93 (itsF 93) (by kernel_rfl) (by kernel_rfl) (by kernel_rfl) ?_; intro w1 hm1)
      go_roundw
      case rel => exact ⟨11, by decide, rfl, hm1⟩
      case measure => simp [intOf]
    · go_wp2_with (refine wpList_put _ rfl _ _ _ 47 (.inr rfl) 3 32 Try.underlying47 Try.underlying3 _ rfl HE.out 123 (itsF 123) (by kernel_rfl) (by kernel_rfl) (by kernel_rfl) ?_; intro w1 hm1)
      go_roundw
      case rel => exact ⟨12, by decide, rfl, hm1⟩
      case measure => simp [intOf]
    · go_wp2_with (refine wpList_put _ rfl _ _ _ 47 (.inr rfl) 3 32 Try.underlying47 Try.underlying3 _ rfl HE.out 125 (itsF 125) (by kernel_rfl) (by kernel_rfl) (by kernel_rfl) ?_; intro w1 hm1)
      go_roundw
      case rel => exact ⟨13, by decide, rfl, hm1⟩
      case measure => simp [intOf]
    · go_wp2_with (refine wpList_put _ rfl _ _ _ 47 (.inr rfl) 3 32 Try.underlying47 Try.underlying3 _ rfl HE.out 124 (itsF 124) (by kernel_rfl) (by kernel_rfl) (by kernel_rfl) ?_; intro w1 hm1)
      go_roundw
      case rel => exact ⟨14, by decide, rfl, hm1⟩
      case measure => simp [intOf]
    · go_wp2_with (refine wpList_put _ rfl _ _ _ 47 (.inr rfl) 3 32 Try.underlying47 Try.underlying3 _ rfl HE.out 47 (itsF 47) (by kernel_rfl) (by kernel_rfl) (by kernel_rfl) ?_; intro w1 hm1)
      go_roundw
      case rel => exact ⟨15, by decide, rfl, hm1⟩
      case measure => simp [intOf]
end Go.Proofs.Ytnedbeomflllcaa
