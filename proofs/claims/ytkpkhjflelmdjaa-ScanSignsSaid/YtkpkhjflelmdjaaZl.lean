/- The document's scan: an escape read, a name. -/
import Derived.Test.YtkpkhjflelmdjaaZk
namespace Go.Proofs.Ytkpkhjflelmdjaa
open Go.RowKit Tnd

theorem esc_le {r : List Int} {x : Int × Nat} (h : escR r = some x) : 1 ≤ x.2 ∧ x.2 ≤ r.length := by
  match r with
  | [] => simp [escR] at h
  | c :: t =>
    simp only [escR] at h
    have key : ∀ y, escT c t = some y → y.2 ≤ t.length := by
      intro y hy
      unfold escT at hy
      have h16 := numR_le 16 1114112
      split at hy
      · cases hy; simp
      · split at hy
        · unfold ctlR at hy
          split at hy
          · split at hy
            · cases hy; simp
            · cases hy
          · cases hy
        · split at hy
          · unfold zerR at hy
            split at hy
            · split at hy
              · cases hy
              · cases hy; simp
            · cases hy; simp
          · split at hy
            · cases hh : hexR 2 t with
              | none => rw [hh] at hy; cases hy
              | some z =>
                rw [hh] at hy
                simp only [Option.map_some] at hy
                cases hy
                unfold hexR at hh
                split at hh
                · rename_i e
                  have := (h16 2 0 t).2
                  simp only; omega
                · cases hh
            · split at hy
              · unfold lngR at hy
                split at hy
                · rename_i hp
                  cases hb : brcR (t.drop 1) with
                  | none => rw [hb] at hy; cases hy
                  | some z =>
                    rw [hb] at hy
                    simp only [Option.map_some] at hy
                    cases hy
                    unfold brcR at hb
                    split at hb
                    · cases hb
                    · split at hb
                      · rename_i hp2
                        cases hb
                        have h1 := pre_le hp2
                        have h2 := pre_le hp
                        simp only [List.length_drop, List.length_cons, List.length_nil] at h1 h2 ⊢
                        omega
                      · cases hb
                · cases hh : hexR 4 t with
                  | none => rw [hh] at hy; cases hy
                  | some hi =>
                    rw [hh] at hy
                    simp only at hy
                    have h4 : 4 ≤ t.length := by
                      unfold hexR at hh
                      split at hh
                      · rename_i e; have := (h16 4 0 t).2; omega
                      · cases hh
                    cases hl : lowR hi (t.drop 4) with
                    | none => rw [hl] at hy; cases hy; exact h4
                    | some p =>
                      rw [hl] at hy
                      cases hy
                      unfold lowR at hl
                      split at hl
                      · rename_i hp
                        split at hl
                        · rename_i lo hlo
                          unfold hexR at hlo
                          split at hlo
                          · rename_i e
                            have h5 := (h16 4 0 ((t.drop 4).drop 2)).2
                            simp only [List.length_drop] at h5
                            simp only; omega
                          · cases hlo
                        · cases hl
                      · cases hl
              · cases hy
    cases ht : escT c t with
    | none => rw [ht] at h; cases h
    | some y =>
      rw [ht] at h
      simp only [Option.map_some] at h
      cases h
      have := key y ht
      simp only [List.length_cons]
      omega

set_option maxHeartbeats 1600000 in
theorem Escape_ref (B b : Nat) (l : List Int) (k : Nat) (w : World) (h : Rs w B b l k) :
    Calls Try.prog 38 #[.pointer (some ⟨b, 0, none⟩)] w (CE w B b 43 [] l (escR (l.drop k)) k) := by
  have HE := Lib.hid (escape_ref B b l k w h)
  have hll := h.le
  have hkI : (k : Int) ≤ 1000000 := by omega
  unfold ecV at HE
  cases hx : escR (l.drop k) with
  | none =>
    rw [hx] at HE
    clear hll hx h
    go_enter Try.func38, Try.ntmps38
    go_wp2_with fail
    refine HE.out.mono ?_
    rintro e w1 ⟨rfl, hc, hg⟩
    have h1 := hc.cell1
    have hf := hc.frz 1
    have hset := hc.set k hc.le.2.1
    have HC := Lib.hid hset
    have HG := Lib.hid hg
    clear hc hg hset
    go_wp2
    go_ret2
    refine ⟨rfl, ?_, HG.out.trans (grown_set w1 ⟨b, 1, none⟩ _)⟩
    have := HC.out
    simpa using this
  | some x =>
    rw [hx] at HE
    have hle := esc_le hx
    rw [List.length_drop] at hle
    have hkx : k + x.2 ≤ l.length := by omega
    obtain ⟨v, n⟩ := x
    simp only at HE hle hkx ⊢
    have hnI : (0 : Int) < n := by omega
    have hnd : decide (0 < n) = true := decide_eq_true (by omega)
    have hnJ : (n : Int) ≤ 1000000 := by omega
    have HKX := Lib.hid hkx
    clear hll hx h hle hkx
    go_enter Try.func38, Try.ntmps38
    go_wp2_with fail
    refine HE.out.mono ?_
    rintro e w1 ⟨rfl, hc, hg⟩
    have h1 := hc.cell1
    have hf := hc.frz 1
    have hset := hc.set (k + n) HKX.out
    rw [Int.natCast_add] at hset
    have HC := Lib.hid hset
    have HG := Lib.hid hg
    clear hc hg hset
    go_wp2
    go_ret2
    exact ⟨rfl, HC.out, HG.out.trans (grown_set w1 ⟨b, 1, none⟩ _)⟩

theorem amg_nm {d : Int} : amg d nmS = true ↔ (65 ≤ d ∧ d ≤ 90) ∨ (97 ≤ d ∧ d ≤ 122) ∨ (48 ≤ d ∧ d ≤ 57) ∨ d = 95 ∨ d = 36 := by
  have h1 : ∀ x ∈ nmS, ((65 ≤ x.toNat ∧ x.toNat ≤ 90) ∨ (97 ≤ x.toNat ∧ x.toNat ≤ 122) ∨ (48 ≤ x.toNat ∧ x.toNat ≤ 57) ∨ x.toNat = 95 ∨ x.toNat = 36) := by decide
  have h2 : ∀ n, n < 256 → ((65 ≤ n ∧ n ≤ 90) ∨ (97 ≤ n ∧ n ≤ 122) ∨ (48 ≤ n ∧ n ≤ 57) ∨ n = 95 ∨ n = 36) → (nmS.any fun x => x.toNat == n) = true := by decide +kernel
  unfold amg
  rw [List.any_eq_true]
  constructor
  · rintro ⟨x, hx, e⟩
    have e2 : d = (x.toNat : Int) := by simpa using e
    have := h1 x hx
    omega
  · intro h
    have h3 := h2 d.toNat (by omega) (by omega)
    rw [List.any_eq_true] at h3
    obtain ⟨x, hx, e⟩ := h3
    have e2 : x.toNat = d.toNat := by simpa using e
    exact ⟨x, hx, by simp; omega⟩

theorem sgn_more {l : List Int} {a n m : Nat} (ha : a < l.length) (hg : gi l a = (n : Int)) (hn : amg (n : Int) nmS = true) : sgnR (m + 1) (l.drop a) = UInt8.ofNat n :: sgnR m (l.drop (a + 1)) := sgn_step ha hg hn
/-- what a name's first signs are: no digit first. -/
def Fst (M : List Nat) : Prop := ∀ x, M[0]? = some x → amg ((x : Nat) : Int) digS = false
theorem nam_done {l : List Int} {k i : Nat} {M : List Nat} (hM : M.length = i) (hi : 1 ≤ i) (hi40 : i ≤ 40) (hby : ∀ x ∈ M, x < 256) (hf : Fst M) (hS : sgnR 40 (l.drop k) = M.map UInt8.ofNat ++ sgnR (40 - i) (l.drop (k + i))) (hn : ¬ (k + i < l.length ∧ amg (gi l (k + i)) nmS = true)) :
    namR (l.drop k) = if pre [62] (l.drop (k + i)) = true then some (M.map UInt8.ofNat) else none := by
  rw [sgn_stop hn, List.append_nil] at hS
  unfold namR
  rw [hS]
  cases M with
  | nil => simp at hM; omega
  | cons x M =>
    have hx := hf x rfl
    have hx8 : x < 256 := hby x (by simp)
    simp only [List.map_cons]
    have e : (UInt8.ofNat x).toNat = x := by simp; omega
    rw [e, hx]
    simp only [Bool.false_eq_true, if_false]
    rw [List.length_map, show M.length + 1 = i by simpa using hM, List.drop_drop]

set_option maxHeartbeats 3200000 in
set_option maxRecDepth 100000 in
theorem name_ref (B b : Nat) (l : List Int) (k : Nat) (w : World) (h : Rs w B b l k) :
    Calls Try.prog 39 #[.pointer (some ⟨b, 0, none⟩)] w (NP w B b 43 [] l (namR (l.drop k)) k) := by
  obtain ⟨i0, hinf, hz0, hz1, hz2⟩ := info_parts info_u8
  have HC := Lib.hid h
  have HLT : Hid (b < w.heap.size) := h.lt
  have hll := h.le
  have HLL := Lib.hid hll
  have hkI : (k : Int) ≤ 1000000 := by omega
  obtain ⟨O, hO⟩ : ∃ O, O = namR (l.drop k) := ⟨_, rfl⟩
  rw [← hO]
  have HO := Lib.hid hO
  clear h hll hO
  go_enter Try.func39, Try.ntmps39
  go_wp2
  go_loopw [4, 5] (fun tv iv wr => ∃ (i : Nat) (q : Option Addr) (c : Nat) (M : List Nat), i ≤ 41 ∧ iv = .int .i64 (i : Nat) ∧ tv = .slice q M.length c ∧ Hid (M.length = i) ∧ Hid (Own wr w.heap.size 5 .u8 (.slice q M.length c) M) ∧ Hid (∀ x ∈ M, x < 256) ∧ Hid (Fst M) ∧ Hid (i ≤ 40 → sgnR 40 (l.drop k) = M.map UInt8.ofNat ++ sgnR (40 - i) (l.drop (k + i))) ∧ Hid (i = 41 → O = none) ∧ Hid (Rs wr B b l k) ∧ Hid (w.grownBy wr (some b))) (fun _ iv _ => 41 - (intOf iv).toNat)
  case atStart => exact ⟨0, none, 0, [], by omega, rfl, rfl, rfl, own_nil _ _ _ _, fun x hx => by simp at hx, fun x hx => by simp at hx, fun _ => by simp, fun h => by omega, HC, grown_drewN w 0 _⟩
  case round =>
    obtain ⟨i, q, c, M, hi, rfl, rfl, HML, HOW, HBY, HF, HE, H41, HR, HG⟩ := hrel
    rename World => wr
    by_cases hi41 : i = 41
    · have HON := Lib.hid (H41.out hi41)
      have hiI : (40 : Int) < i := by omega
      clear hi41
      go_wp2
      go_ret2
      rw [HON.out]
      exact ⟨rfl, HR.out, HG.out⟩
    · have hi40 : i ≤ 40 := by omega
      have hiI : (i : Int) ≤ 40 := by omega
      have HI := Lib.hid hi40
      have hE := HE.out hi40
      have HEE := Lib.hid hE
      obtain ⟨x, hx⟩ : ∃ x, x = sgR (l.drop k) i := ⟨_, rfl⟩
      have HSG : Hid (Calls Try.prog 53 #[.pointer (some ⟨b, 0, none⟩), .int .i64 (i : Nat)] wr fun e w' => e = .returned (.int .i64 x) ∧ ∃ n, w' = wr.drewN n) := by rw [hx]; exact sign_ref B b l k i wr HR.out (by omega)
      have HXX := Lib.hid hx
      have hsame : ∀ n : Nat, x = (n : Int) → k + i < l.length ∧ gi l (k + i) = (n : Int) := fun n e => sg_at.1 (by rw [← HXX.out]; exact e)
      have HSAME := Lib.hid hsame
      have hback : k + i < l.length → 0 ≤ gi l (k + i) → x = gi l (k + i) := fun h1 h2 => by rw [hx]; exact sg_gi h1 h2
      have HBACK := Lib.hid hback
      clear hE hx hsame hback hi41 hi HE H41 hi40
      by_cases hacc : (65 ≤ x ∧ x ≤ 90) ∨ (97 ≤ x ∧ x ≤ 122) ∨ x = 95 ∨ x = 36 ∨ (48 ≤ x ∧ x ≤ 57 ∧ 0 < i)
      · obtain ⟨n, hn⟩ : ∃ n : Nat, x = (n : Int) := Int.eq_ofNat_of_zero_le (by omega)
        have hn8 : n < 256 := by omega
        have ham : amg (n : Int) nmS = true := by rw [amg_nm, ← hn]; omega
        have hsm := HSAME.out n hn
        have HF2 : Hid (Fst (M ++ [n])) := by
          intro y hy
          have h1 := HML.out
          cases M with
          | nil =>
            simp only [List.nil_append, List.getElem?_cons_zero, Option.some.injEq] at hy
            subst hy
            simp at h1
            have : ¬ (48 ≤ ((n : Nat) : Int) ∧ ((n : Nat) : Int) ≤ 57) := by rw [← hn]; omega
            rw [Bool.eq_false_iff, ne_eq, amg_dig]; exact this
          | cons z M =>
            refine HF.out y ?_
            simpa using hy
        have HEN : Hid (i + 1 ≤ 40 → sgnR 40 (l.drop k) = (M ++ [n]).map UInt8.ofNat ++ sgnR (40 - (i + 1)) (l.drop (k + (i + 1)))) := fun h => by
          rw [HEE.out, List.map_append, List.append_assoc, show 40 - i = 40 - (i + 1) + 1 by omega, sgn_step hsm.1 hsm.2 ham]
          rfl
        have H41N : Hid (i + 1 = 41 → O = none) := fun h => by
          have hi : i = 40 := by omega
          have h1 := HEE.out
          rw [hi] at h1
          have hz : sgnR (40 - 40) (l.drop (k + 40)) = [] := rfl
          rw [hz, List.append_nil] at h1
          rw [HO.out]
          unfold namR
          rw [h1]
          have hml := HML.out
          cases M with
          | nil => simp at hml; omega
          | cons z M =>
            simp only [List.map_cons]
            split
            · rfl
            · rw [if_neg]
              rw [List.length_map, show M.length + 1 = 40 by simpa [hi] using hml, List.drop_drop, pre_one]
              rintro ⟨_, e⟩
              rw [← hi, hsm.2] at e
              rw [e] at ham
              exact absurd ham (by decide)
        have HBY2 : Hid (∀ y ∈ M ++ [n], y < 256) := fun y hy => by
          rcases List.mem_append.1 hy with hy | hy
          · exact HBY.out y hy
          · rw [List.mem_singleton.1 hy]; exact hn8
        have HN8 := Lib.hid hn8
        clear ham hsm
        subst hn
        rcases hacc with ⟨h1, h2⟩ | ⟨h1, h2⟩ | h1 | h1 | ⟨h1, h2, h3⟩
        · have hx62 : (((n : Nat) : Int) == 62) = false := by rw [beq_eq_false_iff_ne]; omega
          have hn256 : ((n : Nat) : Int) < 256 := by omega
          go_wp2_with fail
          refine HSG.out.mono ?_
          rintro e w2 ⟨rfl, n2, hw2⟩
          have HR2 : Hid (Rs w2 B b l k) := by rw [hw2]; exact Cu.drewN HR.out n2
          have HG2 : Hid (w.grownBy w2 (some b)) := by rw [hw2]; exact HG.out.trans (grown_drewN _ _ _)
          have HO2 : Hid (Own w2 w.heap.size 5 .u8 (.slice q M.length c) M) := by rw [hw2]; exact own_kept HOW.out (grown_drewN wr n2 none) (by cases (Value.slice q M.length c).ownBlock <;> simp)
          have HB2 : Hid (w.heap.size ≤ w2.heap.size) := HG2.out.size
          have ho3 := HO2.out
          unfold Own at ho3
          have HO3 := Lib.hid ho3
          clear hw2 ho3
          go_wp2_with (at_builtin; refine wpList_append_own _ rfl _ _ 69 rfl w.heap.size 5 i0 (.int .u8 0) 1 1 Try.underlying69 hinf hz0 hz1 hz2 rfl (by decide) (.slice q M.length c) M.length _ rfl (HO3.out.alloc _) ⟨w2.heap.size, 0, none⟩ 1 1 [.int .u8 (n : Int)] rfl rfl ?ka1 ?ka2 ?ka3 ?ka4 ?ka5 ?_)
          try case ka1 => exact World.news_of_block (cs := #[.int .u8 (n : Int)]) (t := 5) (fr := (0, 0)) (MapKept.heap_alloc w2 _).1
          case ka2 => simp [Value.oneCell']
          case ka3 => have := HML.out; have := HI.out; simp only [maxLen]; omega
          case ka4 => have := HML.out; have := HI.out; omega
          case ka5 => have := HB2.out; simp; omega
          intro v' w5 hown5 hgrow5 _
          have hO5 := own_appended (x := n) rfl hown5
          have hg5 : w2.grownBy w5 (Value.slice q M.length c).ownBlock := (below_grown (bl_alloc w2 _) _).trans hgrow5
          have hlt5 : ∀ g, (Value.slice q M.length c).ownBlock = some g → w.heap.size ≤ g ∧ g < w2.heap.size := fun g hg => World.ownsRow.lt HO3.out g hg
          have hC5 : Rs w5 B b l k := Cu.kept HR2.out hg5 (fun g hg => by
            have h1 := hlt5 g hg
            have h2 := HLT.out
            exact ⟨by omega, fun _ => own_block HO2.out hg⟩)
          have hG5 : w.grownBy w5 (some b) := by
            cases hv : (Value.slice q M.length c).ownBlock with
            | none => rw [hv] at hg5; exact HG2.out.trans ⟨hg5.os, hg5.tape, hg5.output, hg5.size, fun i hi _ => hg5.block i hi (by simp)⟩
            | some g => rw [hv] at hg5; exact grown_new HG2.out hg5 (hlt5 g hv).1
          obtain ⟨p', c', hs'⟩ : ∃ p' c', v' = .slice p' (M ++ [n]).length c' := by
            obtain ⟨p', c', hs', _⟩ := own_form hO5
            exact ⟨p', c', hs'⟩
          rw [hs'] at hO5 ⊢
          have HO5 := Lib.hid hO5
          have HC5 := Lib.hid hC5
          have HG5 := Lib.hid hG5
          have HL5 : Hid ((M ++ [n]).length = i + 1) := by show _ = _; rw [List.length_append, HML.out]; rfl
          clear hs' hown5 hgrow5 hO5 hg5 hlt5 hC5 hG5
          generalize M ++ [n] = M2 at *
          go_wp2
          go_roundw
          case rel => exact ⟨i + 1, p', c', M2, by have := HI.out; omega, by go_num, rfl, HL5, HO5, HBY2, HF2, HEN, H41N, HC5, HG5⟩
          case measure => have := HI.out; simp only [intOf]; omega
        · have hx62 : (((n : Nat) : Int) == 62) = false := by rw [beq_eq_false_iff_ne]; omega
          have hn256 : ((n : Nat) : Int) < 256 := by omega
          go_wp2_with fail
          refine HSG.out.mono ?_
          rintro e w2 ⟨rfl, n2, hw2⟩
          have HR2 : Hid (Rs w2 B b l k) := by rw [hw2]; exact Cu.drewN HR.out n2
          have HG2 : Hid (w.grownBy w2 (some b)) := by rw [hw2]; exact HG.out.trans (grown_drewN _ _ _)
          have HO2 : Hid (Own w2 w.heap.size 5 .u8 (.slice q M.length c) M) := by rw [hw2]; exact own_kept HOW.out (grown_drewN wr n2 none) (by cases (Value.slice q M.length c).ownBlock <;> simp)
          have HB2 : Hid (w.heap.size ≤ w2.heap.size) := HG2.out.size
          have ho3 := HO2.out
          unfold Own at ho3
          have HO3 := Lib.hid ho3
          clear hw2 ho3
          go_wp2_with (at_builtin; refine wpList_append_own _ rfl _ _ 69 rfl w.heap.size 5 i0 (.int .u8 0) 1 1 Try.underlying69 hinf hz0 hz1 hz2 rfl (by decide) (.slice q M.length c) M.length _ rfl (HO3.out.alloc _) ⟨w2.heap.size, 0, none⟩ 1 1 [.int .u8 (n : Int)] rfl rfl ?kb1 ?kb2 ?kb3 ?kb4 ?kb5 ?_)
          try case kb1 => exact World.news_of_block (cs := #[.int .u8 (n : Int)]) (t := 5) (fr := (0, 0)) (MapKept.heap_alloc w2 _).1
          case kb2 => simp [Value.oneCell']
          case kb3 => have := HML.out; have := HI.out; simp only [maxLen]; omega
          case kb4 => have := HML.out; have := HI.out; omega
          case kb5 => have := HB2.out; simp; omega
          intro v' w5 hown5 hgrow5 _
          have hO5 := own_appended (x := n) rfl hown5
          have hg5 : w2.grownBy w5 (Value.slice q M.length c).ownBlock := (below_grown (bl_alloc w2 _) _).trans hgrow5
          have hlt5 : ∀ g, (Value.slice q M.length c).ownBlock = some g → w.heap.size ≤ g ∧ g < w2.heap.size := fun g hg => World.ownsRow.lt HO3.out g hg
          have hC5 : Rs w5 B b l k := Cu.kept HR2.out hg5 (fun g hg => by
            have h1 := hlt5 g hg
            have h2 := HLT.out
            exact ⟨by omega, fun _ => own_block HO2.out hg⟩)
          have hG5 : w.grownBy w5 (some b) := by
            cases hv : (Value.slice q M.length c).ownBlock with
            | none => rw [hv] at hg5; exact HG2.out.trans ⟨hg5.os, hg5.tape, hg5.output, hg5.size, fun i hi _ => hg5.block i hi (by simp)⟩
            | some g => rw [hv] at hg5; exact grown_new HG2.out hg5 (hlt5 g hv).1
          obtain ⟨p', c', hs'⟩ : ∃ p' c', v' = .slice p' (M ++ [n]).length c' := by
            obtain ⟨p', c', hs', _⟩ := own_form hO5
            exact ⟨p', c', hs'⟩
          rw [hs'] at hO5 ⊢
          have HO5 := Lib.hid hO5
          have HC5 := Lib.hid hC5
          have HG5 := Lib.hid hG5
          have HL5 : Hid ((M ++ [n]).length = i + 1) := by show _ = _; rw [List.length_append, HML.out]; rfl
          clear hs' hown5 hgrow5 hO5 hg5 hlt5 hC5 hG5
          generalize M ++ [n] = M2 at *
          go_wp2
          go_roundw
          case rel => exact ⟨i + 1, p', c', M2, by have := HI.out; omega, by go_num, rfl, HL5, HO5, HBY2, HF2, HEN, H41N, HC5, HG5⟩
          case measure => have := HI.out; simp only [intOf]; omega
        · obtain rfl : n = 95 := by omega
          clear h1
          go_wp2_with fail
          refine HSG.out.mono ?_
          rintro e w2 ⟨rfl, n2, hw2⟩
          have HR2 : Hid (Rs w2 B b l k) := by rw [hw2]; exact Cu.drewN HR.out n2
          have HG2 : Hid (w.grownBy w2 (some b)) := by rw [hw2]; exact HG.out.trans (grown_drewN _ _ _)
          have HO2 : Hid (Own w2 w.heap.size 5 .u8 (.slice q M.length c) M) := by rw [hw2]; exact own_kept HOW.out (grown_drewN wr n2 none) (by cases (Value.slice q M.length c).ownBlock <;> simp)
          have HB2 : Hid (w.heap.size ≤ w2.heap.size) := HG2.out.size
          have ho3 := HO2.out
          unfold Own at ho3
          have HO3 := Lib.hid ho3
          clear hw2 ho3
          go_wp2_with (at_builtin; refine wpList_append_own _ rfl _ _ 69 rfl w.heap.size 5 i0 (.int .u8 0) 1 1 Try.underlying69 hinf hz0 hz1 hz2 rfl (by decide) (.slice q M.length c) M.length _ rfl (HO3.out.alloc _) ⟨w2.heap.size, 0, none⟩ 1 1 [.int .u8 95] rfl rfl ?kc1 ?kc2 ?kc3 ?kc4 ?kc5 ?_)
          try case kc1 => exact World.news_of_block (cs := #[.int .u8 95]) (t := 5) (fr := (0, 0)) (MapKept.heap_alloc w2 _).1
          case kc2 => simp [Value.oneCell']
          case kc3 => have := HML.out; have := HI.out; simp only [maxLen]; omega
          case kc4 => have := HML.out; have := HI.out; omega
          case kc5 => have := HB2.out; simp; omega
          intro v' w5 hown5 hgrow5 _
          have hO5 := own_appended (x := 95) rfl hown5
          have hg5 : w2.grownBy w5 (Value.slice q M.length c).ownBlock := (below_grown (bl_alloc w2 _) _).trans hgrow5
          have hlt5 : ∀ g, (Value.slice q M.length c).ownBlock = some g → w.heap.size ≤ g ∧ g < w2.heap.size := fun g hg => World.ownsRow.lt HO3.out g hg
          have hC5 : Rs w5 B b l k := Cu.kept HR2.out hg5 (fun g hg => by
            have h1 := hlt5 g hg
            have h2 := HLT.out
            exact ⟨by omega, fun _ => own_block HO2.out hg⟩)
          have hG5 : w.grownBy w5 (some b) := by
            cases hv : (Value.slice q M.length c).ownBlock with
            | none => rw [hv] at hg5; exact HG2.out.trans ⟨hg5.os, hg5.tape, hg5.output, hg5.size, fun i hi _ => hg5.block i hi (by simp)⟩
            | some g => rw [hv] at hg5; exact grown_new HG2.out hg5 (hlt5 g hv).1
          obtain ⟨p', c', hs'⟩ : ∃ p' c', v' = .slice p' (M ++ [95]).length c' := by
            obtain ⟨p', c', hs', _⟩ := own_form hO5
            exact ⟨p', c', hs'⟩
          rw [hs'] at hO5 ⊢
          have HO5 := Lib.hid hO5
          have HC5 := Lib.hid hC5
          have HG5 := Lib.hid hG5
          have HL5 : Hid ((M ++ [95]).length = i + 1) := by show _ = _; rw [List.length_append, HML.out]; rfl
          clear hs' hown5 hgrow5 hO5 hg5 hlt5 hC5 hG5
          generalize M ++ [95] = M2 at *
          go_wp2
          go_roundw
          case rel => exact ⟨i + 1, p', c', M2, by have := HI.out; omega, by go_num, rfl, HL5, HO5, HBY2, HF2, HEN, H41N, HC5, HG5⟩
          case measure => have := HI.out; simp only [intOf]; omega
        · obtain rfl : n = 36 := by omega
          clear h1
          go_wp2_with fail
          refine HSG.out.mono ?_
          rintro e w2 ⟨rfl, n2, hw2⟩
          have HR2 : Hid (Rs w2 B b l k) := by rw [hw2]; exact Cu.drewN HR.out n2
          have HG2 : Hid (w.grownBy w2 (some b)) := by rw [hw2]; exact HG.out.trans (grown_drewN _ _ _)
          have HO2 : Hid (Own w2 w.heap.size 5 .u8 (.slice q M.length c) M) := by rw [hw2]; exact own_kept HOW.out (grown_drewN wr n2 none) (by cases (Value.slice q M.length c).ownBlock <;> simp)
          have HB2 : Hid (w.heap.size ≤ w2.heap.size) := HG2.out.size
          have ho3 := HO2.out
          unfold Own at ho3
          have HO3 := Lib.hid ho3
          clear hw2 ho3
          go_wp2_with (at_builtin; refine wpList_append_own _ rfl _ _ 69 rfl w.heap.size 5 i0 (.int .u8 0) 1 1 Try.underlying69 hinf hz0 hz1 hz2 rfl (by decide) (.slice q M.length c) M.length _ rfl (HO3.out.alloc _) ⟨w2.heap.size, 0, none⟩ 1 1 [.int .u8 36] rfl rfl ?kd1 ?kd2 ?kd3 ?kd4 ?kd5 ?_)
          try case kd1 => exact World.news_of_block (cs := #[.int .u8 36]) (t := 5) (fr := (0, 0)) (MapKept.heap_alloc w2 _).1
          case kd2 => simp [Value.oneCell']
          case kd3 => have := HML.out; have := HI.out; simp only [maxLen]; omega
          case kd4 => have := HML.out; have := HI.out; omega
          case kd5 => have := HB2.out; simp; omega
          intro v' w5 hown5 hgrow5 _
          have hO5 := own_appended (x := 36) rfl hown5
          have hg5 : w2.grownBy w5 (Value.slice q M.length c).ownBlock := (below_grown (bl_alloc w2 _) _).trans hgrow5
          have hlt5 : ∀ g, (Value.slice q M.length c).ownBlock = some g → w.heap.size ≤ g ∧ g < w2.heap.size := fun g hg => World.ownsRow.lt HO3.out g hg
          have hC5 : Rs w5 B b l k := Cu.kept HR2.out hg5 (fun g hg => by
            have h1 := hlt5 g hg
            have h2 := HLT.out
            exact ⟨by omega, fun _ => own_block HO2.out hg⟩)
          have hG5 : w.grownBy w5 (some b) := by
            cases hv : (Value.slice q M.length c).ownBlock with
            | none => rw [hv] at hg5; exact HG2.out.trans ⟨hg5.os, hg5.tape, hg5.output, hg5.size, fun i hi _ => hg5.block i hi (by simp)⟩
            | some g => rw [hv] at hg5; exact grown_new HG2.out hg5 (hlt5 g hv).1
          obtain ⟨p', c', hs'⟩ : ∃ p' c', v' = .slice p' (M ++ [36]).length c' := by
            obtain ⟨p', c', hs', _⟩ := own_form hO5
            exact ⟨p', c', hs'⟩
          rw [hs'] at hO5 ⊢
          have HO5 := Lib.hid hO5
          have HC5 := Lib.hid hC5
          have HG5 := Lib.hid hG5
          have HL5 : Hid ((M ++ [36]).length = i + 1) := by show _ = _; rw [List.length_append, HML.out]; rfl
          clear hs' hown5 hgrow5 hO5 hg5 hlt5 hC5 hG5
          generalize M ++ [36] = M2 at *
          go_wp2
          go_roundw
          case rel => exact ⟨i + 1, p', c', M2, by have := HI.out; omega, by go_num, rfl, HL5, HO5, HBY2, HF2, HEN, H41N, HC5, HG5⟩
          case measure => have := HI.out; simp only [intOf]; omega
        · have hx62 : (((n : Nat) : Int) == 62) = false := by rw [beq_eq_false_iff_ne]; omega
          have hip : (0 : Int) < i := by omega
          have hn256 : ((n : Nat) : Int) < 256 := by omega
          go_wp2_with fail
          refine HSG.out.mono ?_
          rintro e w2 ⟨rfl, n2, hw2⟩
          have HR2 : Hid (Rs w2 B b l k) := by rw [hw2]; exact Cu.drewN HR.out n2
          have HG2 : Hid (w.grownBy w2 (some b)) := by rw [hw2]; exact HG.out.trans (grown_drewN _ _ _)
          have HO2 : Hid (Own w2 w.heap.size 5 .u8 (.slice q M.length c) M) := by rw [hw2]; exact own_kept HOW.out (grown_drewN wr n2 none) (by cases (Value.slice q M.length c).ownBlock <;> simp)
          have HB2 : Hid (w.heap.size ≤ w2.heap.size) := HG2.out.size
          have ho3 := HO2.out
          unfold Own at ho3
          have HO3 := Lib.hid ho3
          clear hw2 ho3
          go_wp2_with (at_builtin; refine wpList_append_own _ rfl _ _ 69 rfl w.heap.size 5 i0 (.int .u8 0) 1 1 Try.underlying69 hinf hz0 hz1 hz2 rfl (by decide) (.slice q M.length c) M.length _ rfl (HO3.out.alloc _) ⟨w2.heap.size, 0, none⟩ 1 1 [.int .u8 (n : Int)] rfl rfl ?ke1 ?ke2 ?ke3 ?ke4 ?ke5 ?_)
          try case ke1 => exact World.news_of_block (cs := #[.int .u8 (n : Int)]) (t := 5) (fr := (0, 0)) (MapKept.heap_alloc w2 _).1
          case ke2 => simp [Value.oneCell']
          case ke3 => have := HML.out; have := HI.out; simp only [maxLen]; omega
          case ke4 => have := HML.out; have := HI.out; omega
          case ke5 => have := HB2.out; simp; omega
          intro v' w5 hown5 hgrow5 _
          have hO5 := own_appended (x := n) rfl hown5
          have hg5 : w2.grownBy w5 (Value.slice q M.length c).ownBlock := (below_grown (bl_alloc w2 _) _).trans hgrow5
          have hlt5 : ∀ g, (Value.slice q M.length c).ownBlock = some g → w.heap.size ≤ g ∧ g < w2.heap.size := fun g hg => World.ownsRow.lt HO3.out g hg
          have hC5 : Rs w5 B b l k := Cu.kept HR2.out hg5 (fun g hg => by
            have h1 := hlt5 g hg
            have h2 := HLT.out
            exact ⟨by omega, fun _ => own_block HO2.out hg⟩)
          have hG5 : w.grownBy w5 (some b) := by
            cases hv : (Value.slice q M.length c).ownBlock with
            | none => rw [hv] at hg5; exact HG2.out.trans ⟨hg5.os, hg5.tape, hg5.output, hg5.size, fun i hi _ => hg5.block i hi (by simp)⟩
            | some g => rw [hv] at hg5; exact grown_new HG2.out hg5 (hlt5 g hv).1
          obtain ⟨p', c', hs'⟩ : ∃ p' c', v' = .slice p' (M ++ [n]).length c' := by
            obtain ⟨p', c', hs', _⟩ := own_form hO5
            exact ⟨p', c', hs'⟩
          rw [hs'] at hO5 ⊢
          have HO5 := Lib.hid hO5
          have HC5 := Lib.hid hC5
          have HG5 := Lib.hid hG5
          have HL5 : Hid ((M ++ [n]).length = i + 1) := by show _ = _; rw [List.length_append, HML.out]; rfl
          clear hs' hown5 hgrow5 hO5 hg5 hlt5 hC5 hG5
          generalize M ++ [n] = M2 at *
          go_wp2
          go_roundw
          case rel => exact ⟨i + 1, p', c', M2, by have := HI.out; omega, by go_num, rfl, HL5, HO5, HBY2, HF2, HEN, H41N, HC5, HG5⟩
          case measure => have := HI.out; simp only [intOf]; omega
      · have hOn : O = (if x = 62 ∧ 0 < i then some (M.map UInt8.ofNat) else none) := by
          rw [HO.out]
          by_cases hnm : k + i < l.length ∧ amg (gi l (k + i)) nmS = true
          · -- a digit first
            have hb := amg_byte hnm.2
            have e := HBACK.out hnm.1 hb.1
            have h2 := amg_nm.1 hnm.2
            rw [← e] at h2
            have hi0 : i = 0 := by omega
            rw [if_neg (by omega)]
            subst hi0
            have hm0 : M = [] := List.eq_nil_of_length_eq_zero HML.out
            have h3 := HEE.out
            rw [hm0] at h3
            obtain ⟨n, hn⟩ : ∃ n : Nat, x = (n : Int) := Int.eq_ofNat_of_zero_le (by omega)
            rw [show 40 - 0 = 39 + 1 from rfl, sgn_step hnm.1 (by rw [← e]; exact hn) (by rw [← hn, e]; exact hnm.2)] at h3
            unfold namR
            rw [h3]
            simp only [List.map_nil, List.nil_append]
            have e2 : (UInt8.ofNat n).toNat = n := by simp; omega
            rw [e2, if_pos]
            rw [amg_dig, ← hn]; omega
          · by_cases hi0 : i = 0
            · subst hi0
              rw [if_neg (by omega)]
              have hm0 : M = [] := List.eq_nil_of_length_eq_zero HML.out
              have h3 := HEE.out
              rw [hm0, sgn_stop hnm] at h3
              unfold namR
              rw [h3]; rfl
            · rw [nam_done HML.out (by omega) HI.out HBY.out HF.out HEE.out hnm]
              by_cases h62 : x = 62
              · rw [if_pos (show x = 62 ∧ 0 < i from ⟨h62, by omega⟩), if_pos (pre_one.2 (HSAME.out 62 h62))]
              · rw [if_neg (show ¬ (x = 62 ∧ 0 < i) from fun e => h62 e.1), if_neg]
                intro e
                have h4 := pre_one.1 e
                exact h62 (by rw [HXX.out]; exact sg_at.2 h4)
        by_cases h62 : x = 62 ∧ 0 < i
        · obtain ⟨h6, hip⟩ := h62
          rw [if_pos ⟨h6, hip⟩] at hOn
          have HON := Lib.hid hOn
          have hipI : (0 : Int) < i := by omega
          have hsm := HSAME.out 62 h6
          have HKK : Hid (k + (i + 1) ≤ l.length) := by show _ ≤ _; omega
          have hcv := back_text HOW.out HBY.out
          clear hOn hacc hsm
          subst h6
          go_wp2_with fail
          refine HSG.out.mono ?_
          rintro e w2 ⟨rfl, n2, hw2⟩
          have HR2 : Hid (Rs w2 B b l k) := by rw [hw2]; exact Cu.drewN HR.out n2
          have HG2 : Hid (w.grownBy w2 (some b)) := by rw [hw2]; exact HG.out.trans (grown_drewN _ _ _)
          have HO2 : Hid (Own w2 w.heap.size 5 .u8 (.slice q M.length c) M) := by rw [hw2]; exact own_kept HOW.out (grown_drewN wr n2 none) (by cases (Value.slice q M.length c).ownBlock <;> simp)
          have hc1 := HR2.out.cell1
          have hfz := HR2.out.frz 1
          have hset := HR2.out.set (k + (i + 1)) HKK.out
          have HSET := Lib.hid hset
          have HOS := Lib.hid (grown_own (grown_set w2 ⟨b, 1, none⟩ (.int .i64 ((k + (i + 1) : Nat) : Int))) HO2.out HLT.out)
          have hcv2 := back_text HOS.out HBY.out
          clear hw2 hset hcv
          have hki : ((k + (i + 1) : Nat) : Int) = (k : Int) + i + 1 := by omega
          rw [hki] at hcv2
          go_wp2
          go_ret2
          rw [HON.out]
          refine ⟨by rfl, ?_, ?_⟩
          · have h1 := HSET.out
            rw [hki] at h1
            exact h1.at (by rw [List.length_map, HML.out]; omega)
          · exact HG2.out.trans (grown_set w2 ⟨b, 1, none⟩ _)
        · rw [if_neg h62] at hOn
          have HON := Lib.hid hOn
          clear hOn
          have hcase : (x = 62 ∧ i = 0) ∨ (48 ≤ x ∧ x ≤ 57 ∧ i = 0) ∨ x < 36 ∨ (36 < x ∧ x < 48) ∨ (57 < x ∧ x < 62) ∨ (62 < x ∧ x < 65) ∨ (90 < x ∧ x < 95) ∨ (95 < x ∧ x < 97) ∨ 122 < x := by omega
          clear h62 hacc
          rcases hcase with ⟨hx1, hi0⟩ | ⟨hx1, hx2, hi0⟩ | hx1 | hx1 | hx1 | hx1 | hx1 | hx1 | hx1
          · subst hx1
            subst hi0
            go_wp2_with fail
            refine HSG.out.mono ?_
            rintro e w2 ⟨rfl, n2, hw2⟩
            have HR2 : Hid (Rs w2 B b l k) := by rw [hw2]; exact Cu.drewN HR.out n2
            have HG2 : Hid (w.grownBy w2 (some b)) := by rw [hw2]; exact HG.out.trans (grown_drewN _ _ _)
            clear hw2
            go_wp2
            go_ret2
            rw [HON.out]
            exact ⟨rfl, HR2.out, HG2.out⟩
          · subst hi0
            have hx62 : (x == 62) = false := by rw [beq_eq_false_iff_ne]; omega
            have hx95 : (x == 95) = false := by rw [beq_eq_false_iff_ne]; omega
            have hx36 : (x == 36) = false := by rw [beq_eq_false_iff_ne]; omega
            go_wp2_with fail
            refine HSG.out.mono ?_
            rintro e w2 ⟨rfl, n2, hw2⟩
            have HR2 : Hid (Rs w2 B b l k) := by rw [hw2]; exact Cu.drewN HR.out n2
            have HG2 : Hid (w.grownBy w2 (some b)) := by rw [hw2]; exact HG.out.trans (grown_drewN _ _ _)
            clear hw2
            go_wp2
            go_ret2
            rw [HON.out]
            exact ⟨rfl, HR2.out, HG2.out⟩
          rotate_left 6
          · have e90 : decide (x ≤ 90) = false := decide_eq_false (by omega)
            have e122 : decide (x ≤ 122) = false := decide_eq_false (by omega)
            have e57 : decide (x ≤ 57) = false := decide_eq_false (by omega)
            have hx62 : (x == 62) = false := by rw [beq_eq_false_iff_ne]; omega
            have hx95 : (x == 95) = false := by rw [beq_eq_false_iff_ne]; omega
            have hx36 : (x == 36) = false := by rw [beq_eq_false_iff_ne]; omega
            go_wp2_with fail
            refine HSG.out.mono ?_
            rintro e w2 ⟨rfl, n2, hw2⟩
            have HR2 : Hid (Rs w2 B b l k) := by rw [hw2]; exact Cu.drewN HR.out n2
            have HG2 : Hid (w.grownBy w2 (some b)) := by rw [hw2]; exact HG.out.trans (grown_drewN _ _ _)
            clear hw2
            go_wp2
            go_ret2
            rw [HON.out]
            exact ⟨rfl, HR2.out, HG2.out⟩
          all_goals
            try (have e57 : decide (x ≤ 57) = false := decide_eq_false (by omega))
            try (have e90 : decide (x ≤ 90) = false := decide_eq_false (by omega))
            try (have e122 : decide (x ≤ 122) = false := decide_eq_false (by omega))
            have hx62 : (x == 62) = false := by rw [beq_eq_false_iff_ne]; omega
            have hx95 : (x == 95) = false := by rw [beq_eq_false_iff_ne]; omega
            have hx36 : (x == 36) = false := by rw [beq_eq_false_iff_ne]; omega
            go_wp2_with fail
            refine HSG.out.mono ?_
            rintro e w2 ⟨rfl, n2, hw2⟩
            have HR2 : Hid (Rs w2 B b l k) := by rw [hw2]; exact Cu.drewN HR.out n2
            have HG2 : Hid (w.grownBy w2 (some b)) := by rw [hw2]; exact HG.out.trans (grown_drewN _ _ _)
            clear hw2
            go_wp2
            go_ret2
            rw [HON.out]
            exact ⟨rfl, HR2.out, HG2.out⟩
end Go.Proofs.Ytkpkhjflelmdjaa
