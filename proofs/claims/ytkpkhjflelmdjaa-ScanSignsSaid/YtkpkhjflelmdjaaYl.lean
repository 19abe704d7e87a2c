/- The walks of a scan's names: signs, and the name. -/
import Derived.Test.YtkpkhjflelmdjaaYk
import Derived.Laws.BytesArg
import Derived.Laws.IdiomStrings
namespace Go.Proofs.Ytkpkhjflelmdjaa
open Go.RowKit Tnd

theorem info_u8 : (Try.prog.info? 5).map (fun i => (i.zero, i.size, i.bytes)) = some (some (.int .u8 0), 1, 1) := by kernel_rfl
/-- the text of bytes of a call's own. -/
theorem back_text {w : World} {B : Nat} {q : Option Addr} {cq : Nat} {M : List Nat} (h : Own w B 5 .u8 (.slice q M.length cq) M) (hb : ∀ b ∈ M, b < 256) :
    (convert 69 9 (.slice q M.length cq)).run Try.prog w = .ok (.string ⟨(M.map UInt8.ofNat).toArray⟩) w := by
  obtain ⟨p', c', e, hlc, _, hnil, hs, hob⟩ := own_form h
  simp only [Value.slice.injEq, true_and] at e
  obtain ⟨rfl, rfl⟩ := e
  cases q with
  | none =>
    have := hnil rfl
    have hM : M = [] := List.eq_nil_of_length_eq_zero (by omega)
    subst hM
    exact run_convert_bytes_nil w 69 5 Try.underlying69 Try.underlying5 0 cq 9 Try.underlying9
  | some a =>
    obtain ⟨g, o, m⟩ := a
    have hg : (⟨g, o, m⟩ : Addr) = ⟨g, 0, none⟩ := by
      have := (hob g rfl).1
      simpa using this
    rw [hg] at h ⊢
    have hl : (M.map UInt8.ofNat).length = M.length := by simp
    have := run_convert_bytes_back (P := Try.prog) w 69 9 5 ⟨g, 0, none⟩ cq (M.map UInt8.ofNat) Try.underlying69 Try.underlying5 Try.underlying9 (fun j hj => by
      have hj' : j < M.length := by rw [hl] at hj; exact hj
      have e1 := own_cell h rfl j hj'
      have e2 : (⟨g, 0, none⟩ : Addr).add j = ⟨g, j, none⟩ := by simp [Addr.add]; exact Eq.symm
      rw [e2, e1]
      have e3 : gd M j = M[j] := by unfold gd; rw [List.getD_eq_getElem?_getD, List.getElem?_eq_getElem hj']; rfl
      rw [e3, List.getElem_map, u8_of _ (hb _ (List.getElem_mem hj'))])
    rw [hl] at this
    exact this


def lenOf : Value → Nat
  | .slice _ n _ => n
  | _ => 0
theorem sgn_step {l : List Int} {k m n : Nat} (hk : k < l.length) (hx : gi l k = (n : Int)) (ha : amg (n : Int) nmS = true) : sgnR (m + 1) (l.drop k) = UInt8.ofNat n :: sgnR m (l.drop (k + 1)) := by
  rw [drop_cons hk, hx]
  simp only [sgnR]
  rw [if_pos ha, Int.toNat_natCast]
theorem sgn_stop {l : List Int} {k m : Nat} (h : ¬ (k < l.length ∧ amg (gi l k) nmS = true)) : sgnR m (l.drop k) = [] := by
  cases m with
  | zero => rfl
  | succ m =>
    by_cases hk : k < l.length
    · rw [drop_cons hk]; simp only [sgnR]; rw [if_neg (fun ha => h ⟨hk, ha⟩)]
    · rw [List.drop_eq_nil_of_le (by omega)]; rfl
theorem own_block {w : World} {B : Nat} {v : Value} {N : List Nat} (h : Own w B 5 .u8 v N) {g : Nat} (hv : v.ownBlock = some g) : ∃ cs T2 fr, w.heap[g]? = some (.cells cs T2 fr) ∧ T2 ≠ 3 := by
  rcases h.2 with ⟨rfl, _⟩ | ⟨g2, cap, cur, rfl, _, hh, _⟩
  · simp [Value.ownBlock] at hv
  · simp only [Value.ownBlock, Option.some.injEq] at hv
    subst hv
    exact ⟨_, _, _, hh, by decide⟩
theorem grown_own {B : Nat} {w w' : World} {b : Nat} (h : w.grownBy w' (some b)) {v : Value} {e : TypeId} {kd : IntKind} {N : List Nat} (ho : Own w B e kd v N) (hb : b < B) : Own w' B e kd v N := by
  refine own_kept ho h ?_
  cases hv : v.ownBlock with
  | none => exact .inl rfl
  | some g =>
    right
    have := World.ownsRow.lt ho g hv
    intro e
    cases e
    omega

set_option maxHeartbeats 1600000 in
theorem signs_any (B b : Nat) (T : TypeId) (R : List Value) (l : List Int) (k : Nat) (w : World) (h : Cu w B b T R l k) :
    Calls Try.prog 58 #[.pointer (some ⟨b, 0, none⟩)] w (CP w B b T R l (.string ⟨(sgnR 40 (l.drop k)).toArray⟩) (k + (sgnR 40 (l.drop k)).length)) := by
  obtain ⟨i0, hinf, hz0, hz1, hz2⟩ := info_parts info_u8
  have HC := Lib.hid h
  have HLT : Hid (b < w.heap.size) := h.lt
  obtain ⟨S, hS⟩ : ∃ S, S = sgnR 40 (l.drop k) := ⟨_, rfl⟩
  rw [← hS]
  have HS := Lib.hid hS
  clear h hS
  have HNM : Hid (∀ (k1 : Nat) (w1 : World), Cu w1 B b T R l k1 → Calls Try.prog 50 #[.pointer (some ⟨b, 0, none⟩), .string ⟨nmS.toArray⟩] w1 (CP w1 B b T R l (.tuple #[.int .i64 (if k1 < l.length ∧ amg (gi l k1) nmS = true then gi l k1 else 0), .bool (decide (k1 < l.length ∧ amg (gi l k1) nmS = true))]) (if k1 < l.length ∧ amg (gi l k1) nmS = true then k1 + 1 else k1))) := fun k1 w1 h1 => oneOf_any B b T R l k1 ⟨nmS.toArray⟩ w1 h1 (by decide)
  have hnm : (⟨nmS.toArray⟩ : ByteArray) = ⟨#[65, 66, 67, 68, 69, 70, 71, 72, 73, 74, 75, 76, 77, 78, 79, 80, 81, 82, 83, 84, 85, 86, 87, 88, 89, 90, 97, 98, 99, 100, 101, 102, 103, 104, 105, 106, 107, 108, 109, 110, 111, 112, 113, 114, 115, 116, 117, 118, 119, 120, 121, 122, 48, 49, 50, 51, 52, 53, 54, 55, 56, 57, 95, 36]⟩ := rfl
  rw [hnm] at HNM
  clear hnm
  go_enter Try.func58, Try.ntmps58
  go_wp2
  go_loopw [3] (fun tv wr => ∃ (q : Option Addr) (c : Nat) (M : List Nat), tv = .slice q M.length c ∧ M.length ≤ 40 ∧ Hid (Own wr w.heap.size 5 .u8 (.slice q M.length c) M) ∧ Hid (∀ x ∈ M, x < 256) ∧ Hid (S = M.map UInt8.ofNat ++ sgnR (40 - M.length) (l.drop (k + M.length))) ∧ Hid (Cu wr B b T R l (k + M.length)) ∧ Hid (w.grownBy wr (some b))) (fun tv _ => 40 - lenOf tv)
  case atStart => exact ⟨none, 0, [], rfl, by simp, own_nil _ _ _ _, fun x hx => by simp at hx, by show _ = _; simpa using HS.out, HC.out, grown_drewN w 0 _⟩
  case round =>
    obtain ⟨q, c, M, rfl, hM, HO, HBY, HE, HCR, HG⟩ := hrel
    rename World => wr
    have HM := Lib.hid hM
    by_cases hf : M.length = 40
    · have hcv := back_text HO.out HBY.out
      have hSM : S = M.map UInt8.ofNat := by
        have := HE.out
        rw [hf] at this
        simpa [sgnR] using this
      have hSL : S.length = M.length := by rw [hSM, List.length_map]
      have HSM := Lib.hid hSM
      have HSL := Lib.hid hSL
      have hMI : (40 : Int) ≤ M.length := by omega
      clear HE hSM hSL hM hf
      go_wp2
      go_ret
      exact ⟨by rw [HSM.out]; rfl, by rw [HSL.out]; exact HCR.out, HG.out⟩
    · have hlt : M.length < 40 := by omega
      have hltI : (M.length : Int) < 40 := by omega
      have hO := HNM.out _ _ HCR.out
      by_cases hx : k + M.length < l.length ∧ amg (gi l (k + M.length)) nmS = true
      · rw [if_pos hx, if_pos hx, decide_eq_true hx] at hO
        obtain ⟨n, hn⟩ : ∃ n : Nat, gi l (k + M.length) = (n : Int) := Int.eq_ofNat_of_zero_le (amg_byte hx.2).1
        have hn8 : n < 256 := by have := (amg_byte hx.2).2; omega
        have hn8I : (n : Int) < 256 := by omega
        rw [hn] at hO
        have HN8 := Lib.hid hn8
        have HX := Lib.hid hx
        have HN := Lib.hid hn
        have HOO := Lib.hid hO
        clear hO hx hn hf
        go_wp2_with fail
        refine HOO.out.mono ?_
        rintro e w2 ⟨rfl, hc2, hg2⟩
        have HC2 := Lib.hid hc2
        have HO2 := Lib.hid (grown_own hg2 HO.out HLT.out)
        have HG2 := Lib.hid (HG.out.trans hg2)
        have HB2 : Hid (w.heap.size ≤ w2.heap.size) := HG2.out.size
        have ho3 := HO2.out
        unfold Own at ho3
        have HO3 := Lib.hid ho3
        clear hc2 hg2 ho3
        go_wp2_with (at_builtin; refine wpList_append_own _ rfl _ _ 69 rfl w.heap.size 5 i0 (.int .u8 0) 1 1 Try.underlying69 hinf hz0 hz1 hz2 rfl (by decide) (.slice q M.length c) M.length _ rfl (HO3.out.alloc _) ⟨w2.heap.size, 0, none⟩ 1 1 [.int .u8 (n : Int)] rfl rfl ?k1 ?k2 ?k3 ?k4 ?k5 ?_)
        case k1 => exact World.news_of_block (cs := #[.int .u8 (n : Int)]) (t := 5) (fr := (0, 0)) (MapKept.heap_alloc w2 _).1
        case k2 => simp [Value.oneCell']
        case k3 => have := HM.out; simp only [maxLen]; omega
        case k4 => have := HM.out; omega
        case k5 => have := HB2.out; simp; omega
        intro v' w5 hown5 hgrow5 _
        have hO5 := own_appended rfl hown5
        have hg5 : w2.grownBy w5 (Value.slice q M.length c).ownBlock := (below_grown (bl_alloc w2 _) _).trans hgrow5
        have hlt5 : ∀ g, (Value.slice q M.length c).ownBlock = some g → w.heap.size ≤ g ∧ g < w2.heap.size := fun g hg => World.ownsRow.lt HO3.out g hg
        have hC5 : Cu w5 B b T R l (k + M.length + 1) := HC2.out.kept hg5 (fun g hg => by
          have h1 := hlt5 g hg
          have h2 := HLT.out
          exact ⟨by omega, fun _ => own_block HO2.out hg⟩)
        have hG5 : w.grownBy w5 (some b) := by
          cases hv : (Value.slice q M.length c).ownBlock with
          | none => rw [hv] at hg5; exact HG2.out.trans ⟨hg5.os, hg5.tape, hg5.output, hg5.size, fun i hi _ => hg5.block i hi (by simp)⟩
          | some g => rw [hv] at hg5; exact grown_new HG2.out hg5 (hlt5 g hv).1
        obtain ⟨p', c', hs'⟩ : ∃ p' c', v' = .slice p' (M ++ [n]).length c' := by
          obtain ⟨p', c', hs', _⟩ := own_form hO5
          exact ⟨p', c', hs'⟩
        rw [hs'] at hO5 ⊢
        have HO5 := Lib.hid hO5
        have HC5 := Lib.hid hC5
        have HG5 := Lib.hid hG5
        have HBY5 : Hid (∀ x ∈ M ++ [n], x < 256) := fun x hx => by
          rcases List.mem_append.1 hx with hx | hx
          · exact HBY.out x hx
          · simp only [List.mem_singleton] at hx; subst hx; exact HN8.out
        have HE5 : Hid (S = (M ++ [n]).map UInt8.ofNat ++ sgnR (40 - (M ++ [n]).length) (l.drop (k + (M ++ [n]).length))) := by
          show _ = _
          rw [HE.out, List.map_append, List.length_append, List.append_assoc]
          have e : 40 - M.length = 40 - (M.length + 1) + 1 := by omega
          rw [e, sgn_step HX.out.1 HN.out (by rw [← HN.out]; exact HX.out.2)]
          rfl
        have HL5 : Hid ((M ++ [n]).length = M.length + 1) := by show _ = _; simp
        have HM5 : Hid (M.length < 40) := hlt
        clear hs' hown5 hgrow5 hO5 hg5 hlt5 hC5 hG5
        generalize M ++ [n] = M2 at *
        go_wp2
        go_roundw
        case rel => exact ⟨p', c', M2, rfl, by have := HL5.out; have := HM5.out; omega, HO5, HBY5, HE5, by show Cu _ _ _ _ _ _ _; rw [HL5.out]; exact HC5.out, HG5⟩
        case measure => have := HL5.out; have := HM5.out; simp only [lenOf]; omega
      · rw [if_neg hx, if_neg hx, decide_eq_false hx] at hO
        have HOO := Lib.hid hO
        have HX := Lib.hid hx
        clear hO hx hf
        go_wp2_with fail
        refine HOO.out.mono ?_
        rintro e w2 ⟨rfl, hc2, hg2⟩
        have HC2 := Lib.hid hc2
        have HO2 := Lib.hid (grown_own hg2 HO.out HLT.out)
        have HG2 := Lib.hid (HG.out.trans hg2)
        have hcv := back_text HO2.out HBY.out
        have hSM : S = M.map UInt8.ofNat := by
          have := HE.out
          rw [sgn_stop HX.out] at this
          simpa using this
        have hSL : S.length = M.length := by rw [hSM, List.length_map]
        have HSM := Lib.hid hSM
        have HSL := Lib.hid hSL
        clear HE hSM hSL hM hc2 hg2
        go_wp2
        go_ret
        exact ⟨by rw [HSM.out]; rfl, by rw [HSL.out]; exact HC2.out, HG2.out⟩
end Go.Proofs.Ytkpkhjflelmdjaa
