/- The walk of with: the classes by the sets of both. -/
import Derived.Test.YtildfjlaieaadaaGreatQc
import Derived.Test.YtildfjlaieaadaaGreatQh
import Derived.Maps.OwnOps
import Derived.Maps.OwnSet
import Derived.DeepKeys4

namespace Go.Proofs.YtildfjlaieaadaaGreat
open Go.RowKit Tnr Go.Maps

def mv (k : Nat × Nat) : Value := .agg #[.int .i64 (k.1 : Nat), .int .i64 (k.2 : Nat)]
theorem key_law : Keyed Tryz.prog 95 := Keyed.of_law (deep_law_laid (m := 9) (by kernel_rfl) (by omega) (of_decide_eq_true (by kernel_rfl)) (by kernel_rfl) (by kernel_rfl))
theorem key_wide : (match Tryz.prog.underlying 95 with | some (.array _ _) | some (.struct _) => true | _ => false) = true := by kernel_rfl
theorem key_cells : Tryz.prog.cellsOf 95 = 2 := by kernel_rfl
theorem arr_cells : Tryz.prog.cellsOf 93 = 2 := by kernel_rfl
theorem int_cells : Tryz.prog.cellsOf 3 = 1 := by kernel_rfl
theorem und_arr : Tryz.prog.underlying 93 = some (.array 2 3) := by kernel_rfl
theorem und_int : Tryz.prog.underlying 3 = some (.int .i64) := by kernel_rfl
theorem und_mark0 : (match Tryz.prog.underlying 95 with | some (.struct fs) => fs.toList.map (fun f => (f.type, f.offset, f.name != "_")) | _ => []) = [(93, 0, true)] := by kernel_rfl
theorem und_mark : ∃ f : Field, Tryz.prog.underlying 95 = some (.struct #[f]) ∧ f.type = 93 ∧ f.offset = 0 ∧ (f.name != "_") = true := by
  have h := und_mark0
  split at h
  · rename_i fs hf
    obtain ⟨l⟩ := fs
    cases l with
    | nil => cases h
    | cons f r =>
      cases r with
      | nil =>
        simp only [List.map_cons, List.map_nil, List.cons.injEq, Prod.mk.injEq, and_true] at h
        exact ⟨f, hf, h.1, h.2.1, h.2.2⟩
      | cons g r => simp at h
  · cases h
theorem key_type : Tryz.prog.keyType 95 = true := by kernel_rfl
theorem types_size : 2 ≤ Tryz.prog.types.size := of_decide_eq_true (by kernel_rfl)
theorem key_two {P : Program} {K A I : TypeId} {f : Field} (hK : P.underlying K = some (.struct #[f])) (hA : P.underlying A = some (.array 2 I)) (hI : P.underlying I = some (.int .i64)) (ft : f.type = A) (fo : f.offset = 0) (fn : (f.name != "_") = true)
    (cK : P.cellsOf K = 2) (cA : P.cellsOf A = 2) (cI : P.cellsOf I = 1) (kt : P.keyType K = true) (hs : 2 ≤ P.types.size) (a b : Int) (w1 : (Lit.int .i64 a).wf = true) (w2 : (Lit.int .i64 b).wf = true) : ∃ l, keyOf P K (.agg #[.int .i64 a, .int .i64 b]) = some l := by
  obtain ⟨n, hn⟩ : ∃ n, P.types.size = n + 2 := ⟨P.types.size - 2, by omega⟩
  subst ft
  simp [keyOf, hK, hn, Value.formed, cK, kt, Program.keyLits, Value.cells, fo, fn, hA, cA, cI, hI, w1, w2, List.range_succ]
theorem key_mark (k : Nat × Nat) (h1 : (k.1 : Int) ≤ 1000000) (h2 : (k.2 : Int) ≤ 1000000) : ∃ l, keyOf Tryz.prog 95 (mv k) = some l := by
  obtain ⟨f, hf, ft, fo, fn⟩ := und_mark
  exact key_two hf und_arr und_int ft fo fn key_cells arr_cells int_cells key_type types_size k.1 k.2 (WalkArith.wf_i64 (by omega)) (WalkArith.wf_i64 (by omega))
noncomputable def kl (k : Nat × Nat) : Lit := (keyOf Tryz.prog 95 (mv k)).getD (.bool false)
def Sml (k : Nat × Nat) : Prop := (k.1 : Int) ≤ 1000000 ∧ (k.2 : Int) ≤ 1000000
theorem kl_key {k : Nat × Nat} (h : Sml k) : keyOf Tryz.prog 95 (mv k) = some (kl k) := by
  obtain ⟨l, e⟩ := key_mark k h.1 h.2
  unfold kl
  rw [e]; rfl
set_option maxRecDepth 100000 in
theorem kl_inj {a b : Nat × Nat} (ha : Sml a) (hb : Sml b) (e : kl a = kl b) : a = b := by
  have h := key_law.inj (kl_key ha) (e ▸ kl_key hb)
  unfold mv at h
  simp only [Value.agg.injEq, Array.mk.injEq, List.cons.injEq, Value.int.injEq, true_and, and_true] at h
  exact Prod.ext (by omega) (by omega)

/-- what a map of numbers holds: each of these its place. -/
structure MapIs (D : DataW Unit) (ks : List (Nat × Nat)) : Prop where
  tidy : Tidy D
  size : Maps.size D = ks.length
  has : ∀ k, Sml k → Maps.has D (kl k) = decide (k ∈ ks)
  look : ∀ k ∈ ks, D.atKey (kl k) (.lit (.int .i64 0)) = .lit (.int .i64 (ix ks k : Nat))
  sml : ∀ k ∈ ks, Sml k
theorem mapIs_nil : MapIs (.map []) [] := ⟨tidy_empty, rfl, fun k _ => rfl, fun k hk => by simp at hk, fun k hk => by simp at hk⟩
set_option maxRecDepth 100000 in
theorem MapIs.put {D : DataW Unit} {ks : List (Nat × Nat)} (h : MapIs D ks) {k : Nat × Nat} (hs : Sml k) (hk : k ∉ ks) : MapIs (D.put (kl k) (.lit (.int .i64 (ks.length : Nat)))) (ks ++ [k]) := by
  have hkey := key_law.key (kl_key hs)
  have hno : Maps.has D (kl k) = false := by rw [h.has k hs]; simpa using hk
  refine ⟨h.tidy.put hkey _, ?_, fun x hx => ?_, fun x hx => ?_, fun x hx => ?_⟩
  · rw [size_put h.tidy, hno, h.size]; simp
  · by_cases e : x = k
    · subst e
      rw [has_put_same h.tidy.isMap hkey]; simp
    · rw [has_put_other (fun e2 => e (kl_inj hx hs e2)), h.has x hx]
      simp [e]
  · by_cases e : x = k
    · subst e
      rw [atKey_put_same h.tidy.isMap hkey, ix_snoc_new hk]
    · have hm : x ∈ ks := by
        rw [List.mem_append, List.mem_singleton] at hx
        exact hx.resolve_right e
      rw [atKey_put_other (fun e2 => e (kl_inj (h.sml x hm) hs e2)), h.look x hm, ix_snoc_mem hm]
  · rw [List.mem_append, List.mem_singleton] at hx
    rcases hx with hx | rfl
    · exact h.sml x hx
    · exact hs

/-! ### where the walk stands -/
def St (l m : List (Int × Nat)) : Prop := (l = [] ∧ m = []) ∨ ∃ p l' q m', l = p :: l' ∧ m = q :: m' ∧ Wf l ∧ Wf m ∧ p.1 ≤ ends m ∧ q.1 ≤ ends l
theorem St.next {p q : Int × Nat} {l m : List (Int × Nat)} (h : St (p :: l) (q :: m)) : St (if ends (p :: l) ≤ ends (q :: m) then l else p :: l) (if ends (q :: m) ≤ ends (p :: l) then m else q :: m) := by
  rcases h with ⟨h, _⟩ | ⟨p0, l0, q0, m0, e1, e2, h1, h2, h3, h4⟩
  · exact absurd h (by simp)
  · simp only [List.cons.injEq] at e1 e2
    obtain ⟨rfl, rfl⟩ := e1
    obtain ⟨rfl, rfl⟩ := e2
    cases l with
    | nil => cases m with
      | nil => simp [ends, St]
      | cons b m =>
        have := Wf.head_le h2.2.2
        have k1 : ¬ ends [p] ≤ ends (q :: b :: m) := by show ¬ (1114111 : Int) ≤ b.1 - 1; omega
        have k2 : ends (q :: b :: m) ≤ ends [p] := by show b.1 - 1 ≤ (1114111 : Int); omega
        rw [if_neg k1, if_pos k2]
        refine .inr ⟨p, [], b, m, rfl, rfl, h1, h2.2.2, ?_, ?_⟩
        · have := Wf.ends_ge h2.2.2; have h3' : p.1 ≤ b.1 - 1 := h3; omega
        · show b.1 ≤ 1114111; omega
    | cons a l => cases m with
      | nil =>
        have := Wf.head_le h1.2.2
        have k1 : ends (p :: a :: l) ≤ ends [q] := by show a.1 - 1 ≤ (1114111 : Int); omega
        have k2 : ¬ ends [q] ≤ ends (p :: a :: l) := by show ¬ (1114111 : Int) ≤ a.1 - 1; omega
        rw [if_pos k1, if_neg k2]
        refine .inr ⟨a, l, q, [], rfl, rfl, h1.2.2, h2, ?_, ?_⟩
        · show a.1 ≤ 1114111; omega
        · have := Wf.ends_ge h1.2.2; have h4' : q.1 ≤ a.1 - 1 := h4; omega
      | cons b m =>
        have w1 := h1.2.2
        have w2 := h2.2.2
        have g1 := Wf.ends_ge w1
        have g2 := Wf.ends_ge w2
        have h3' : p.1 ≤ b.1 - 1 := h3
        have h4' : q.1 ≤ a.1 - 1 := h4
        have e1 : ends (p :: a :: l) = a.1 - 1 := rfl
        have e2 : ends (q :: b :: m) = b.1 - 1 := rfl
        rw [e1, e2]
        by_cases k1 : a.1 - 1 ≤ b.1 - 1
        · rw [if_pos k1]
          by_cases k2 : b.1 - 1 ≤ a.1 - 1
          · rw [if_pos k2]
            exact .inr ⟨a, l, b, m, rfl, rfl, w1, w2, by omega, by omega⟩
          · rw [if_neg k2]
            exact .inr ⟨a, l, q, b :: m, rfl, rfl, w1, h2, by rw [e2]; omega, by omega⟩
        · rw [if_neg k1, if_pos (by omega)]
          exact .inr ⟨p, a :: l, b, m, rfl, rfl, h1, w2, by omega, by rw [e1]; omega⟩
theorem endQ_ends {l : List (Int × Nat)} {i : Nat} (h : i < l.length) : endQ (l.map Prod.fst) i = ends (l.drop i) := by
  rw [List.drop_eq_getElem_cons h]
  unfold endQ
  rw [List.length_map]
  split
  · rename_i e
    rw [List.drop_eq_nil_of_le (by omega)]; rfl
  · have h2 : i + 1 < l.length := by omega
    rw [List.drop_eq_getElem_cons h2, gq_get (by rw [List.length_map]; exact h2)]
    simp [ends]
theorem mergeP_len : ∀ (n : Nat) (l m : List (Int × Nat)), l.length + m.length ≤ n → (mergeP l m).length ≤ l.length + m.length
  | _, [], m, _ => by rw [mergeP_nil]; simp
  | _, p :: l, [], _ => by unfold mergeP; simp
  | 0, p :: l, q :: m, h => by simp at h
  | n + 1, p :: l, q :: m, h => by
    rw [mergeP_cons, List.length_cons]
    simp only [List.length_cons] at h ⊢
    have h1 := mergeP_len n l m (by omega)
    have h2 := mergeP_len n l (q :: m) (by simp only [List.length_cons]; omega)
    have h3 := mergeP_len n (p :: l) m (by simp only [List.length_cons]; omega)
    simp only [List.length_cons] at h2 h3
    split <;> split <;> omega
end Go.Proofs.YtildfjlaieaadaaGreat
