/- NatRing: small laws for its walk: stores into cells that were laid, the decimal texts' lengths, bounds. -/
import Derived.Test.YteiadigkbhbolaaDoorOb
import Derived.Test.YteiadigkbhbolaaDoorOc
import Derived.Test.YteiadigkbhbolaaDoorOd
namespace Go.Proofs.YteiadigkbhbolaaDoor
open Go.RowKit Tnd

theorem NV.setCell {w : World} {v x u : Value} {n b : Nat} (h : NV w v n) (hb : w.heap[b]? = some (.cells #[x] 25 (0, 0))) (hx : ∀ k z, x ≠ .int k z) : NV (w.setCell ⟨b, 0, none⟩ u) v n := by
  obtain ⟨q, c, l, h1, ⟨q', c', e, h2, h3⟩, h4, h5⟩ := h
  refine ⟨q, c, l, h1, ⟨q', c', e, ?_, h3⟩, h4, h5⟩
  rcases h2 with h2 | ⟨d, off, e1, e2, e3⟩
  · exact .inl h2
  · refine .inr ⟨d, off, e1, by simpa using e2, fun i hi => ?_⟩
    have h6 := e3 i hi
    have hne : d ≠ b := by
      intro e
      subst e
      have hc := cell_of_one hb
      by_cases h0 : off + i = 0
      · rw [h0, hc] at h6
        exact hx _ _ (Option.some.inj h6)
      · have : w.cell? ⟨d, off + i, none⟩ = none := by
          simp [World.cell?, hb]
          intro h; omega
        rw [this] at h6; cases h6
    rw [World.cell?_setCell_other _ _ _ _ (fun e => hne (congrArg Addr.block e).symm)]
    exact h6
theorem Held.setCell {z b c : Nat} {w : World} {x u : Value} {n : Nat} (h : Held z w c (.num n)) (hb : w.heap[b]? = some (.cells #[x] 25 (0, 0))) (hx : ∀ k z, x ≠ .int k z) (hc : c ≠ b) : Held z (w.setCell ⟨b, 0, none⟩ u) c (.num n) := by
  obtain ⟨y, h1, h2⟩ := h
  refine ⟨y, ?_, NV.setCell h2 hb hx⟩
  rw [World.cell?_setCell_other _ _ _ _ (fun e => hc (congrArg Addr.block e).symm)]; exact h1
theorem Held.setCell' {z b c : Nat} {w : World} {x u : Value} {n : Nat} (h : Held z w c (.fre n)) (hb : w.heap[b]? = some (.cells #[x] 25 (0, 0))) (hx : ∀ k z, x ≠ .int k z) (hc : c ≠ b) : Held z (w.setCell ⟨b, 0, none⟩ u) c (.fre n) := by
  obtain ⟨y, h1, h2, h3⟩ := h
  refine ⟨y, ?_, h2.setCell hb (by decide) u, NV.setCell h3 hb hx⟩
  rw [World.cell?_setCell_other _ _ _ _ (fun e => hc (congrArg Addr.block e).symm)]; exact h1
theorem Held.stored {z b : Nat} {w : World} {x u : Value} {n : Nat} (h : Kd.ok z (.fre n) (.agg #[u]) w) (hb : w.heap[b]? = some (.cells #[x] 25 (0, 0))) (hx : ∀ k z, x ≠ .int k z) : Held z (w.setCell ⟨b, 0, none⟩ u) b (.fre n) :=
  ⟨u, cell_of_one (one_setCell hb), h.1.setCell hb (by decide) u, NV.setCell h.2 hb hx⟩
theorem run_store (b : Nat) (x : Value) (q : Option Addr) (l c : Nat) (w : World) (h : w.heap[b]? = some (.cells #[x] 25 (0, 0))) : (Instr.storeAt 25 (.pointer (some ⟨b, 0, none⟩)) (.agg #[.slice q l c])).run Tryd.prog w = .ok () (w.setCell ⟨b, 0, none⟩ (.slice q l c)) := by
  have hc := cell_of_one h
  have hf := free_of_one h
  go_simp
theorem fre_form {z n : Nat} {w : World} {v : Value} (h : Kd.ok z (.fre n) v w) : ∃ q l c, v = .agg #[.slice q l c] := by
  obtain ⟨_, q, c, l, rfl, _⟩ := h
  exact ⟨_, _, _, rfl⟩
theorem none_int : ∀ (k : IntKind) (z : Int), (Value.slice none 0 0) ≠ .int k z := fun _ _ h => by cases h

set_option maxHeartbeats 3200000 in
set_option maxRecDepth 100000 in
/-- the fifth region whole: both results stored. -/
theorem ring5_all {Q : Exit → Act → World → Prop} {a0 : Act} {w : World} {z : Nat} (A B C : Nat) (hz : z ≤ w.drew.heap.size) (hsize : a0.tmps.size = 191) (b3 b4 b5 : Nat) (h3 : a0.tmps[3]? = some (.pointer (some ⟨b3, 0, none⟩))) (h4 : a0.tmps[4]? = some (.pointer (some ⟨b4, 0, none⟩))) (h5 : a0.tmps[5]? = some (.pointer (some ⟨b5, 0, none⟩)))
    (C3 : Held z w.drew b3 (.num A)) (C4 : Held z w.drew b4 (.num B)) (C5 : Held z w.drew b5 (.num C)) (z3 : b3 < z) (z4 : b4 < z) (z5 : b5 < z) (ka : Nat) (hka : ka ≤ 100000) (HA : sumn [A, B, C] < 2 ^ ka) (HB : prodn [A, B, C] < 2 ^ ka)
    (fin : ∀ (u0 u1 u2 u3 u4 u5 u6 u7 u8 u9 : Value) (b7 b8 : Nat) (y : World), Hid (Below z w.drew y) → Hid (Held z y b3 (.num A)) → Hid (Held z y b4 (.num B)) → Hid (Held z y b5 (.num C)) → Hid (Held z y b7 (.fre (sumn [A, B, C]))) → Hid (Held z y b8 (.fre (prodn [A, B, C]))) → Hid (z ≤ y.heap.size) →
      Q .normal (putL a0 [(24, u0), (25, u1), (26, u2), (27, u3), (28, u4), (29, u5), (30, u6), (31, u7), (32, u8), (33, u9), (7, .pointer (some ⟨b7, 0, none⟩)), (8, .pointer (some ⟨b8, 0, none⟩))]) y) (id : Nat) :
    (Code.region id ring5Ops true).wp Tryd.prog Q a0 w := by
  refine ring5_wp A B C hz hsize b3 b4 b5 h3 h4 h5 C3 C4 C5 ka hka HA HB ?_ id
  intro f y hk hb hne
  have k4 : Kd.ok z (.fre (sumn [A, B, C])) (f 4) y := hk 4 (by decide) (by decide)
  have k9 : Kd.ok z (.fre (prodn [A, B, C])) (f 9) y := hk 9 (by decide) (by decide)
  obtain ⟨b7, e7, hz7, hc7⟩ : PtrV y z (f 10) := hk 10 (by decide) (by decide)
  obtain ⟨b8, e8, hz8, hc8⟩ : PtrV y z (f 11) := hk 11 (by decide) (by decide)
  obtain ⟨q4, l4, c4, e4⟩ := fre_form k4
  obtain ⟨q9, l9, c9, e9⟩ := fre_form k9
  have hne2 : b8 ≠ b7 := fun e => hne (by rw [e7, e8, e])
  rw [e4] at k4
  rw [e9] at k9
  have hc8' : (y.setCell ⟨b7, 0, none⟩ (.slice q4 l4 c4)).heap[b8]? = some (.cells #[.slice none 0 0] 25 (0, 0)) := by rw [Below.heap_setCell _ _ _ _ hne2]; exact hc8
  rw [e4, e7, e8, e9]
  have get : ∀ s v, (s, v) ∈ [(24, f 0), (25, f 1), (26, f 2), (27, f 3), (28, .agg #[.slice q4 l4 c4]), (29, f 5), (30, f 6), (31, f 7), (32, f 8), (33, .agg #[.slice q9 l9 c9]), (7, .pointer (some ⟨b7, 0, none⟩)), (8, .pointer (some ⟨b8, 0, none⟩))] → (putL a0 [(24, f 0), (25, f 1), (26, f 2), (27, f 3), (28, .agg #[.slice q4 l4 c4]), (29, f 5), (30, f 6), (31, f 7), (32, f 8), (33, .agg #[.slice q9 l9 c9]), (7, .pointer (some ⟨b7, 0, none⟩)), (8, .pointer (some ⟨b8, 0, none⟩))]).tmps[s]? = some v := fun s v hm =>
    (putL_get _ a0 s (by simp) (by rw [hsize]; simp)).2 v hm
  have g7 := eval_at (get 7 (.pointer (some ⟨b7, 0, none⟩)) (by simp))
  have g8 := eval_at (get 8 (.pointer (some ⟨b8, 0, none⟩)) (by simp))
  have g28 := eval_at (get 28 (.agg #[.slice q4 l4 c4]) (by simp))
  have g33 := eval_at (get 33 (.agg #[.slice q9 l9 c9]) (by simp))
  have k9' : Kd.ok z (.fre (prodn [A, B, C])) (.agg #[.slice q9 l9 c9]) (y.setCell ⟨b7, 0, none⟩ (.slice q4 l4 c4)) := ⟨k9.1.setCell hc7 (by decide) _, NV.setCell k9.2 hc7 none_int⟩
  generalize hl : ([(24, f 0), (25, f 1), (26, f 2), (27, f 3), (28, .agg #[.slice q4 l4 c4]), (29, f 5), (30, f 6), (31, f 7), (32, f 8), (33, .agg #[.slice q9 l9 c9]), (7, .pointer (some ⟨b7, 0, none⟩)), (8, .pointer (some ⟨b8, 0, none⟩))] : List (Nat × Value)) = L at g7 g8 g28 g33 ⊢
  refine any_one (i := 12) (o := { dst := none, op := Op.store 25 (Operand.tmp 7) (Operand.tmp 28), type := 0, pos := "outright.go:18", after := #[{ on := 10, ground := Ground.data }, { on := 4, ground := Ground.data }, { on := 9, ground := Ground.chain }, { on := 0, ground := Ground.phase }, { on := 1, ground := Ground.phase }, { on := 2, ground := Ground.phase }, { on := 3, ground := Ground.phase }, { on := 4, ground := Ground.phase }, { on := 5, ground := Ground.textOnly Departure.lateStores }, { on := 6, ground := Ground.textOnly Departure.lateStores }, { on := 7, ground := Ground.textOnly Departure.lateStores }, { on := 8, ground := Ground.textOnly Departure.lateStores }, { on := 9, ground := Ground.textOnly Departure.lateStoresUnsure }, { on := 10, ground := Ground.phase }, { on := 11, ground := Ground.phase }], guard := none }) (by kernel_rfl) rfl ?_
  refine inv_skip (wanted_none rfl) (w2 := y.setCell ⟨b7, 0, none⟩ (.slice q4 l4 c4)) (by simp [execOp, g7, g28, run_store b7 _ _ _ _ y hc7]) ?_
  refine any_one (i := 13) (o := { dst := none, op := Op.store 25 (Operand.tmp 8) (Operand.tmp 33), type := 0, pos := "outright.go:18", after := #[{ on := 11, ground := Ground.data }, { on := 9, ground := Ground.data }, { on := 12, ground := Ground.chain }, { on := 0, ground := Ground.phase }, { on := 1, ground := Ground.phase }, { on := 2, ground := Ground.phase }, { on := 3, ground := Ground.phase }, { on := 4, ground := Ground.phase }, { on := 5, ground := Ground.phase }, { on := 6, ground := Ground.phase }, { on := 7, ground := Ground.phase }, { on := 8, ground := Ground.phase }, { on := 9, ground := Ground.phase }, { on := 10, ground := Ground.phase }, { on := 11, ground := Ground.phase }, { on := 12, ground := Ground.phase }], guard := none }) (by kernel_rfl) rfl ?_
  refine inv_skip (wanted_none rfl) (w2 := (y.setCell ⟨b7, 0, none⟩ (.slice q4 l4 c4)).setCell ⟨b8, 0, none⟩ (.slice q9 l9 c9)) (a := putL a0 L) (by simp [execOp, g8, g33, run_store b8 _ _ _ _ _ hc8']) ?_
  refine any_end (by kernel_rfl) ?_ 0
  show Q .normal (putL a0 L) _
  subst hl
  have d3 := (Held.setCell (Held.setCell (u := .slice q4 l4 c4) (C3.below hb) hc7 none_int (by omega)) hc8' none_int (by omega) (u := .slice q9 l9 c9))
  have d4 := (Held.setCell (Held.setCell (u := .slice q4 l4 c4) (C4.below hb) hc7 none_int (by omega)) hc8' none_int (by omega) (u := .slice q9 l9 c9))
  have d5 := (Held.setCell (Held.setCell (u := .slice q4 l4 c4) (C5.below hb) hc7 none_int (by omega)) hc8' none_int (by omega) (u := .slice q9 l9 c9))
  have d7 := Held.setCell' (Held.stored k4 hc7 none_int) hc8' none_int hne2.symm (u := .slice q9 l9 c9)
  have d8 := Held.stored k9' hc8' none_int
  refine fin _ _ _ _ _ _ _ _ _ _ b7 b8 _ ?_ d3 d4 d5 d7 d8 ?_
  · exact ((hb.mono hz).setCell hz7 _).setCell hz8 _
  · show z ≤ _
    rw [World.size_setCell, World.size_setCell]
    exact Nat.le_trans hz hb.size

set_option maxHeartbeats 3200000 in
set_option maxRecDepth 100000 in
/-- the fifteenth region whole: the difference stored, and that there is one. -/
theorem ring15_all {Q : Exit → Act → World → Prop} {a0 : Act} {w : World} {z : Nat} (A B C : Nat) (hz : z ≤ w.drew.heap.size) (hsize : a0.tmps.size = 191) (hQ : ∀ c a w v d, Q (.panic c) (a.put d v) w → Q (.panic c) a w) (b3 b4 b5 : Nat) (h3 : a0.tmps[3]? = some (.pointer (some ⟨b3, 0, none⟩))) (h4 : a0.tmps[4]? = some (.pointer (some ⟨b4, 0, none⟩)))
    (C3 : Held z w.drew b3 (.num A)) (C4 : Held z w.drew b4 (.num B)) (C5 : Held z w.drew b5 (.num C)) (z3 : b3 < z) (z4 : b4 < z) (z5 : b5 < z) (ka : Nat) (hka : ka ≤ 100000) (N1 : sumn [A, B] < 2 ^ ka) (N2 : sumn [A, B] - B < 2 ^ ka) (E1 : sumn [A, B] - B = A) (E2 : B ≤ sumn [A, B])
    (fin : ∀ (u0 u1 u2 u3 u4 u5 u6 u7 u8 : Value) (b13 : Nat) (y : World), Hid (Below z w.drew y) → Hid (Held z y b3 (.num A)) → Hid (Held z y b4 (.num B)) → Hid (Held z y b5 (.num C)) → Hid (Held z y b13 (.fre A)) → Hid (z ≤ y.heap.size) →
      Q .normal ((putL a0 [(123, u0), (124, u1), (125, u2), (126, u3), (127, u4), (128, u5), (122, u6), (129, u7), (130, u8), (13, .pointer (some ⟨b13, 0, none⟩))]).put (some 14) (.bool true)) y) (id : Nat) :
    (Code.region id ring15Ops true).wp Tryd.prog Q a0 w := by
  refine ring15_wp A B hz hsize hQ b3 b4 h3 h4 C3 C4 ka hka N1 N2 E1 E2 ?_ id
  intro f y hk hb
  have k7 : Kd.ok z (.fre A) (f 7) y := hk 7 (by decide) (by decide)
  have k8 : f 8 = .bool true := hk 8 (by decide) (by decide)
  obtain ⟨b13, e13, hz13, hc13⟩ : PtrV y z (f 9) := hk 9 (by decide) (by decide)
  obtain ⟨q7, l7, c7, e7⟩ := fre_form k7
  rw [e7] at k7
  rw [e7, e13, k8]
  have get : ∀ s v, (s, v) ∈ [(123, f 0), (124, f 1), (125, f 2), (126, f 3), (127, f 4), (128, f 5), (122, f 6), (129, .agg #[.slice q7 l7 c7]), (130, .bool true), (13, .pointer (some ⟨b13, 0, none⟩))] → (putL a0 [(123, f 0), (124, f 1), (125, f 2), (126, f 3), (127, f 4), (128, f 5), (122, f 6), (129, .agg #[.slice q7 l7 c7]), (130, .bool true), (13, .pointer (some ⟨b13, 0, none⟩))]).tmps[s]? = some v := fun s v hm =>
    (putL_get _ a0 s (by simp) (by rw [hsize]; simp)).2 v hm
  have g13 := eval_at (get 13 (.pointer (some ⟨b13, 0, none⟩)) (by simp))
  have g129 := eval_at (get 129 (.agg #[.slice q7 l7 c7]) (by simp))
  have g130 := eval_at (get 130 (.bool true) (by simp))
  generalize hl : ([(123, f 0), (124, f 1), (125, f 2), (126, f 3), (127, f 4), (128, f 5), (122, f 6), (129, .agg #[.slice q7 l7 c7]), (130, .bool true), (13, .pointer (some ⟨b13, 0, none⟩))] : List (Nat × Value)) = L at g13 g129 g130 ⊢
  refine any_one (i := 10) (o := { dst := none, op := Op.store 25 (Operand.tmp 13) (Operand.tmp 129), type := 0, pos := "outright.go:29", after := #[{ on := 9, ground := Ground.data }, { on := 7, ground := Ground.data }, { on := 5, ground := Ground.chain }, { on := 0, ground := Ground.phase }, { on := 1, ground := Ground.phase }, { on := 2, ground := Ground.phase }, { on := 3, ground := Ground.phase }, { on := 4, ground := Ground.phase }, { on := 5, ground := Ground.phase }, { on := 6, ground := Ground.phase }, { on := 7, ground := Ground.phase }, { on := 8, ground := Ground.textOnly Departure.lateStores }, { on := 9, ground := Ground.phase }], guard := none }) (by kernel_rfl) rfl ?_
  refine inv_skip (wanted_none rfl) (w2 := y.setCell ⟨b13, 0, none⟩ (.slice q7 l7 c7)) (by simp [execOp, g13, g129, run_store b13 _ _ _ _ y hc13]) ?_
  refine any_one (i := 11) (o := { dst := some 14, op := Op.assign (Operand.tmp 130), type := 4, pos := "outright.go:29", after := #[{ on := 8, ground := Ground.data }, { on := 10, ground := Ground.chain }, { on := 0, ground := Ground.phase }, { on := 1, ground := Ground.phase }, { on := 2, ground := Ground.phase }, { on := 3, ground := Ground.phase }, { on := 4, ground := Ground.phase }, { on := 5, ground := Ground.phase }, { on := 6, ground := Ground.phase }, { on := 7, ground := Ground.phase }, { on := 8, ground := Ground.phase }, { on := 9, ground := Ground.phase }, { on := 10, ground := Ground.phase }], guard := none }) (by kernel_rfl) rfl ?_
  refine inv_val (G := fun v w => v = .bool true ∧ w = y.setCell ⟨b13, 0, none⟩ (.slice q7 l7 c7)) (R := fun _ _ => True) (wanted_none rfl) (a := putL a0 L) (v := .bool true) (w2 := y.setCell ⟨b13, 0, none⟩ (.slice q7 l7 c7)) (by simp [execOp, g130]) ?_ ⟨rfl, rfl⟩ trivial
  rintro u y2 ⟨rfl, rfl⟩ _
  refine any_end (by kernel_rfl) ?_ 0
  show Q .normal ((putL a0 L).put (some 14) (.bool true)) _
  subst hl
  refine fin _ _ _ _ _ _ _ _ _ b13 _ ?_ (Held.setCell (C3.below hb) hc13 none_int (by omega)) (Held.setCell (C4.below hb) hc13 none_int (by omega)) (Held.setCell (C5.below hb) hc13 none_int (by omega)) (Held.stored k7 hc13 none_int) ?_
  · exact (hb.mono hz).setCell hz13 _
  · show z ≤ _
    rw [World.size_setCell]
    exact Nat.le_trans hz hb.size
theorem b_add {x y i j k : Nat} (hx : x < 2 ^ i) (hy : y < 2 ^ j) (h : i + j + 1 ≤ k) : x + y < 2 ^ k := by
  have h1 : (2 : Nat) ^ i ≤ 2 ^ (i + j) := Nat.pow_le_pow_right (by omega) (by omega)
  have h2 : (2 : Nat) ^ j ≤ 2 ^ (i + j) := Nat.pow_le_pow_right (by omega) (by omega)
  have h3 : (2 : Nat) ^ (i + j + 1) = 2 ^ (i + j) * 2 := Nat.pow_succ ..
  have h4 : (2 : Nat) ^ (i + j + 1) ≤ 2 ^ k := Nat.pow_le_pow_right (by omega) h
  omega
theorem b_mul {x y i j k : Nat} (hx : x < 2 ^ i) (hy : y < 2 ^ j) (h : i + j ≤ k) : x * y < 2 ^ k := by
  have h1 : x * y < 2 ^ i * 2 ^ j := Nat.mul_lt_mul'' hx hy
  rw [← Nat.pow_add] at h1
  exact Nat.lt_of_lt_of_le h1 (Nat.pow_le_pow_right (by omega) h)
theorem b_le {x i k : Nat} (hx : x < 2 ^ i) (h : i ≤ k) : x < 2 ^ k := Nat.lt_of_lt_of_le hx (Nat.pow_le_pow_right (by omega) h)
theorem b_zero (k : Nat) : 0 < 2 ^ k := Nat.pow_pos (by omega)
end Go.Proofs.YteiadigkbhbolaaDoor
