/- The walk of Text: the text of numbers, or that they have none. -/
import Derived.Test.YtalnfbbggmhbfaaDoorPr
import Derived.Test.YtalnfbbggmhbfaaDoorPi
import Derived.Laws.BytesArg
import Derived.Laws.IdiomStrings
namespace Go.Proofs.YtalnfbbggmhbfaaDoor
open Go.RowKit Tnd

def wrB (c : Int) : Bool := decide (0 ≤ c) && (decide (c ≤ 1114111) && !(decide (55296 ≤ c) && decide (c ≤ 57343)))
theorem wrB_iff {c : Int} : wrB c = true ↔ 0 ≤ c ∧ Whole c.toNat := by
  simp only [wrB, Whole, Bool.and_eq_true, Bool.not_eq_true', Bool.and_eq_false_iff, decide_eq_true_eq, decide_eq_false_iff_not]; omega
theorem written_any (c : Int) (w : World) : Calls Tryd.prog 28 #[.int .i64 c] w fun e w' => e = .returned (.bool (wrB c)) ∧ w = w' := by
  by_cases h1 : 0 ≤ c
  case neg =>
    have hb : wrB c = false := by unfold wrB; rw [decide_eq_false h1]; rfl
    have HB := Lib.hid hb
    clear hb
    go_enter Tryd.func28, Tryd.ntmps28
    go_wp2
    go_ret
    exact ⟨ret_bool HB.out.symm, rfl⟩
  by_cases h2 : c ≤ 1114111
  case neg =>
    have hb : wrB c = false := by unfold wrB; rw [decide_eq_false h2, Bool.false_and, Bool.and_false]
    have HB := Lib.hid hb
    clear hb
    go_enter Tryd.func28, Tryd.ntmps28
    go_wp2
    go_ret
    exact ⟨ret_bool HB.out.symm, rfl⟩
  rcases hu : upB c with _ | _
  · rcases hl : loB c with _ | _
    · have hb : wrB c = true := by
        simp only [upB, loB, Bool.and_eq_false_iff, decide_eq_false_iff_not] at hu hl
        rw [wrB_iff]; unfold Whole; omega
      have HB := Lib.hid hb
      clear hb
      go_enter Tryd.func28, Tryd.ntmps28
      go_wp2_with (first | (go_at_call 35; refine (upper_any _ _).mono ?_; rintro e w' ⟨rfl, rfl⟩; rw [hu]) | (go_at_call 36; refine (lower_any _ _).mono ?_; rintro e w' ⟨rfl, rfl⟩; rw [hl]))
      go_ret
      exact ⟨ret_bool HB.out.symm, rfl⟩
    · have hb : wrB c = false := by
        simp only [loB, Bool.and_eq_true, decide_eq_true_eq] at hl
        rw [Bool.eq_false_iff, ne_eq, wrB_iff]; unfold Whole; omega
      have HB := Lib.hid hb
      clear hb
      go_enter Tryd.func28, Tryd.ntmps28
      go_wp2_with (first | (go_at_call 35; refine (upper_any _ _).mono ?_; rintro e w' ⟨rfl, rfl⟩; rw [hu]) | (go_at_call 36; refine (lower_any _ _).mono ?_; rintro e w' ⟨rfl, rfl⟩; rw [hl]))
      go_ret
      exact ⟨ret_bool HB.out.symm, rfl⟩
  · have hb : wrB c = false := by
      simp only [upB, Bool.and_eq_true, decide_eq_true_eq] at hu
      rw [Bool.eq_false_iff, ne_eq, wrB_iff]; unfold Whole; omega
    have HB := Lib.hid hb
    clear hb
    go_enter Tryd.func28, Tryd.ntmps28
    go_wp2_with (first | (go_at_call 35; refine (upper_any _ _).mono ?_; rintro e w' ⟨rfl, rfl⟩; rw [hu]) | (go_at_call 36; refine (lower_any _ _).mono ?_; rintro e w' ⟨rfl, rfl⟩; rw [hl]))
    go_ret
    exact ⟨ret_bool HB.out.symm, rfl⟩

theorem put_any (B : Nat) (p : Option Addr) (cp : Nat) (N : List Nat) (c : Nat) (w : World) (hS : SizesIn w) (ho : Own w B 5 .u8 (.slice p N.length cp) N) (hN : N.length ≤ 100000) (hc : c ≤ 1114111) (hB : B ≤ w.heap.size) (hG : 1 < B) :
    Calls Tryd.prog 29 #[.slice p N.length cp, .int .i64 (c : Nat)] w fun e w' => ∃ v, e = .returned v ∧ Own w' B 5 .u8 v (N ++ encN c) ∧ Below B w w' := by
  by_cases h1 : c ≤ 127
  · exact put_0 B p cp N c w hS ho hN (by omega) h1 hB hG
  by_cases h2 : c ≤ 2047
  · exact put_1 B p cp N c w hS ho hN (by omega) h2 hB hG
  by_cases h3 : c ≤ 65535
  · exact put_2 B p cp N c w hS ho hN (by omega) h3 hB hG
  · exact put_3 B p cp N c w hS ho hN (by omega) hc hB hG

/-- numbers' bytes. -/
def encI (l : List Int) : List Nat := (l.map fun c => encN c.toNat).flatten
theorem encI_snoc (l : List Int) (c : Int) : encI (l ++ [c]) = encI l ++ encN c.toNat := by simp [encI]
theorem encI_le (l m : List Int) : (encI l).length ≤ (encI (l ++ m)).length := by simp [encI]
theorem take_snoc (l : List Int) (k : Nat) (h : k < l.length) : l.take (k + 1) = l.take k ++ [gi l k] := by
  rw [List.take_succ_eq_append_getElem h]
  unfold gi
  rw [List.getD_eq_getElem?_getD, List.getElem?_eq_getElem h]; rfl
/-- what Text tells. -/
def textR (l : List Int) : List UInt8 × Bool := if l.all wrB = true ∧ (encI l).length ≤ 65536 then ((encI l).map UInt8.ofNat, true) else ([], false)
theorem encN_len (c : Nat) : (encN c).length ≤ 4 := by
  unfold encN
  split
  · simp
  · split
    · simp
    · split <;> simp
theorem encN_bytes {c : Nat} (h : c ≤ 1114111) : ∀ b ∈ encN c, b < 256 := by
  unfold encN
  intro b hb
  split at hb
  · simp at hb; omega
  · split at hb
    · simp at hb; omega
    · split at hb
      · simp at hb; omega
      · simp at hb; omega
theorem encI_bytes {l : List Int} (h : l.all wrB = true) : ∀ b ∈ encI l, b < 256 := by
  intro b hb
  unfold encI at hb
  rw [List.mem_flatten] at hb
  obtain ⟨r, hr, hb⟩ := hb
  rw [List.mem_map] at hr
  obtain ⟨c, hc, rfl⟩ := hr
  have := (wrB_iff.1 (List.all_eq_true.1 h c hc)).2.1
  exact encN_bytes (by omega) b hb
theorem textR_no {l : List Int} {k : Nat} (hk : k < l.length) (h : wrB (gi l k) = false) : textR l = ([], false) := by
  unfold textR
  rw [if_neg]
  rintro ⟨h1, _⟩
  have h2 := List.all_eq_true.1 h1 (gi l k) (by
    unfold gi
    rw [List.getD_eq_getElem?_getD, List.getElem?_eq_getElem hk]
    exact List.getElem_mem hk)
  rw [h] at h2; cases h2
theorem textR_long {l : List Int} {k : Nat} (h : 65536 < (encI (l.take k)).length) : textR l = ([], false) := by
  unfold textR
  rw [if_neg]
  rintro ⟨_, h2⟩
  have := encI_le (l.take k) (l.drop k)
  rw [List.take_append_drop] at this
  omega
theorem all_gi {l : List Int} (h : ∀ j, j < l.length → wrB (gi l j) = true) : l.all wrB = true := by
  rw [List.all_eq_true]
  intro c hc
  obtain ⟨j, hj, rfl⟩ := List.mem_iff_getElem.1 hc
  have := h j hj
  unfold gi at this
  rw [List.getD_eq_getElem?_getD, List.getElem?_eq_getElem hj] at this
  exact this

/-- the text of bytes of a call's own. -/
theorem back_text {w : World} {B : Nat} {q : Option Addr} {cq : Nat} {M : List Nat} (h : Own w B 5 .u8 (.slice q M.length cq) M) (hb : ∀ b ∈ M, b < 256) :
    (convert 23 9 (.slice q M.length cq)).run Tryd.prog w = .ok (.string ⟨(M.map UInt8.ofNat).toArray⟩) w := by
  obtain ⟨p', c', e, hlc, _, hnil, hs, hob⟩ := own_form h
  simp only [Value.slice.injEq, true_and] at e
  obtain ⟨rfl, rfl⟩ := e
  cases q with
  | none =>
    have := hnil rfl
    have hM : M = [] := List.eq_nil_of_length_eq_zero (by omega)
    subst hM
    exact run_convert_bytes_nil w 23 5 Tryd.underlying23 Tryd.underlying5 0 cq 9 Tryd.underlying9
  | some a =>
    obtain ⟨g, o, m⟩ := a
    have hg : (⟨g, o, m⟩ : Addr) = ⟨g, 0, none⟩ := by
      have := (hob g rfl).1
      simpa using this
    rw [hg] at h ⊢
    have hl : (M.map UInt8.ofNat).length = M.length := by simp
    have := run_convert_bytes_back (P := Tryd.prog) w 23 9 5 ⟨g, 0, none⟩ cq (M.map UInt8.ofNat) Tryd.underlying23 Tryd.underlying5 Tryd.underlying9 (fun j hj => by
      have hj' : j < M.length := by rw [hl] at hj; exact hj
      have e1 := own_cell h rfl j hj'
      have e2 : (⟨g, 0, none⟩ : Addr).add j = ⟨g, j, none⟩ := by simp [Addr.add]; exact Eq.symm
      rw [e2, e1]
      have e3 : gd M j = M[j] := by unfold gd; rw [List.getD_eq_getElem?_getD, List.getElem?_eq_getElem hj']; rfl
      rw [e3, List.getElem_map, u8_of _ (hb _ (List.getElem_mem hj'))])
    rw [hl] at this
    exact this

def TextPost (r : List UInt8 × Bool) (w : World) (e : Ending) (w' : World) : Prop :=
  e = .returned (.tuple #[.string ⟨r.1.toArray⟩, .bool r.2]) ∧ Below w.heap.size w w'

set_option maxHeartbeats 1600000 in
set_option maxRecDepth 100000 in
theorem text_any (p : Option Addr) (cp : Nat) (l : List Int) (w : World) (hp : SlI w p l) (hl : l.length ≤ 4611686018427387904) (hS : SizesIn w) :
    Calls Tryd.prog 10 #[.slice p l.length cp] w (TextPost (textR l) w) := by
  obtain ⟨n, hn⟩ : ∃ n, n = l.length := ⟨_, rfl⟩
  rw [← hn]
  have hnI : (n : Int) ≤ 4611686018427387904 := by omega
  have HN := Lib.hid hn
  have HP := Lib.hid hp
  have HS := Lib.hid hS
  have HG : Hid (1 < w.heap.size) := by obtain ⟨T, fr, h⟩ := hS; exact lt_of_block h
  clear hp hn hl hS
  go_enter Tryd.func10, Tryd.ntmps10
  go_wp2
  go_loopw [4, 9] (fun tv iv wr => ∃ (k : Nat) (M : List Nat) (q : Option Addr) (cq : Nat), k ≤ n ∧ iv = .int .i64 (k : Nat) ∧ tv = .slice q M.length cq ∧ Hid (M = encI (l.take k)) ∧ Hid (M.length ≤ 65536) ∧ Hid (∀ j, j < k → wrB (gi l j) = true) ∧ Hid (Own wr w.heap.size 5 .u8 (.slice q M.length cq) M) ∧ Hid (Below w.heap.size w wr)) (fun _ iv _ => n - (intOf iv).toNat)
  case atStart => exact ⟨0, [], none, 0, Nat.zero_le _, rfl, rfl, rfl, Nat.zero_le _, fun j hj => by omega, own_nil _ _ _ _, Below.refl _ _⟩
  case round =>
    obtain ⟨k, M, q, cq, hk, rfl, rfl, HM, HML, HW, HO, HB⟩ := hrel
    rename World => wr
    by_cases hkn : k < n
    · obtain ⟨b1, o1, rfl, hc1⟩ : ∃ b off, p = some ⟨b, off, none⟩ ∧ wr.cell? ⟨b, off + k, none⟩ = some (.int .i64 (gi l k)) := by
        have hkl : k < l.length := by have := HN.out; omega
        rcases HP.out with h | ⟨b, off, h1, h2⟩
        · rw [h] at hkl; simp at hkl
        · have h3 := h2 k hkl
          exact ⟨b, off, h1, by rw [HB.out.cell (World.block_lt_of_cell? w _ h3)]; exact h3⟩
      have hkI : (k : Int) < n := by omega
      obtain ⟨x, hx⟩ : ∃ x, x = gi l k := ⟨_, rfl⟩
      rw [← hx] at hc1
      have HX := Lib.hid hx
      clear hx
      rcases hw : wrB x with _ | _
      · go_wp2_with (go_at_call 28; refine (written_any _ _).mono ?_; rintro e w' ⟨rfl, rfl⟩; rw [hw])
        go_ret2
        refine ⟨?_, HB.out⟩
        rw [textR_no (k := k) (by have := HN.out; omega) (by rw [← HX.out]; exact hw)]
        rfl
      · have hwh := wrB_iff.1 hw
        obtain ⟨c, rfl⟩ := Int.eq_ofNat_of_zero_le hwh.1
        have HPUT := Lib.hid (put_any w.heap.size q cq M c wr (HS.out.below HB.out) HO.out (by have := HML.out; omega) (by have := hwh.2.1; simpa using this) HB.out.size HG.out)
        have HW1 := Lib.hid hw
        clear hwh
        go_wp2_with (first
          | (go_at_call 28; refine (written_any _ _).mono ?_; rintro e w' ⟨rfl, rfl⟩; rw [hw])
          | (go_at_call 29; refine HPUT.out.mono ?_; rintro e w2 ⟨v2, rfl, ho2, hb2⟩; obtain ⟨q2, c2, hv2, _⟩ := own_form ho2; subst hv2; have HO2 := Lib.hid ho2; have HB2 := Lib.hid hb2; have HL2 := Lib.hid (encN_len c); clear ho2 hb2; obtain ⟨M2, hM2⟩ : ∃ M2, M2 = M ++ encN c := ⟨_, rfl⟩; rw [← hM2] at HO2 ⊢; have HM2 := Lib.hid hM2; clear hM2))
        · have hlong : 65536 < M2.length := by first | assumption | omega
          go_ret2
          refine ⟨?_, HB.out.trans HB2.out⟩
          rw [textR_long (k := k + 1) (l := l) (by
            rw [take_snoc l k (by have := HN.out; omega), encI_snoc, ← HX.out, ← HM.out, Int.toNat_natCast, ← HM2.out]; exact hlong)]
          rfl
        · have hshort : M2.length ≤ 65536 := by first | assumption | omega
          go_roundw
          case rel =>
            refine ⟨k + 1, M2, q2, c2, by omega, by go_num, rfl, ?_, hshort, ?_, ?_, HB.out.trans HB2.out⟩
            · show M2 = _
              rw [take_snoc l k (by have := HN.out; omega), encI_snoc, ← HX.out, ← HM.out, Int.toNat_natCast, ← HM2.out]
            · intro j hj
              by_cases e : j = k
              · subst e; rw [← HX.out]; exact HW1.out
              · exact HW.out j (by omega)
            · have h1 := HO2.out
              rw [HM2.out]
              rw [HM2.out] at h1
              exact h1
          case measure => simp [intOf]; omega
    · have hkI : (n : Int) ≤ k := by omega
      have hkk : k = n := by omega
      have hall : l.all wrB = true := all_gi (fun j hj => HW.out j (by have := HN.out; omega))
      have hMM : M = encI l := by rw [HM.out, hkk, HN.out, List.take_length]
      have hby : ∀ b ∈ M, b < 256 := by rw [hMM]; exact encI_bytes hall
      have hcv := back_text HO.out hby
      have HRES : Hid (textR l = (M.map UInt8.ofNat, true)) := by
        show textR l = _
        unfold textR
        rw [if_pos ⟨hall, by rw [← hMM]; exact HML.out⟩, ← hMM]
      clear hkk hall hMM hby
      go_wp2
      go_ret2
      refine ⟨?_, HB.out⟩
      rw [HRES.out]
      rfl
end Go.Proofs.YtalnfbbggmhbfaaDoor
