/- The walk of the document's Text. -/
import Derived.Test.YtalnfbbggmhbfaaDoorPx
namespace Go.Proofs.YtalnfbbggmhbfaaDoor
open Go.RowKit Tnd

theorem news8_at {w : World} {b off : Nat} {a : List Nat} (h : ∀ i, i < a.length → w.cell? ⟨b, off + i, none⟩ = some (.int .u8 (gd a i : Nat))) : ∀ j u, (a.map fun d => Value.int .u8 (d : Nat))[j]? = some u → w.cell? ((⟨b, off, none⟩ : Addr).add j) = some u := by
  intro j u hu
  rw [List.getElem?_map] at hu
  obtain ⟨d, hd, rfl⟩ := Option.map_eq_some_iff.1 hu
  have hj := (List.getElem?_eq_some_iff.1 hd).1
  have e2 : (⟨b, off, none⟩ : Addr).add j = ⟨b, off + j, none⟩ := by simp [Addr.add]
  rw [e2, h j hj]
  unfold gd
  rw [List.getD_eq_getElem?_getD, hd]; rfl
/-- append of a row of bytes onto one of the call's own. -/
theorem run_join8 {w : World} {B : Nat} {v : Value} {N : List Nat} {q : Option Addr} {cq : Nat} {a : List Nat} (T : TypeId) (ho : Own w B 5 .u8 v N) (hs : Sl w .u8 q a) (hq : q = none → cq = 0) (hl : N.length + a.length ≤ 1000000) (hB : B ≤ w.heap.size) :
    ∃ v' w', (Builtin.append_ #[23, 23] T #[v, .slice q a.length cq]).run Tryd.prog w = .ok v' w' ∧ Own w' B 5 .u8 v' (N ++ a) ∧ w.grownBy w' v.ownBlock := by
  obtain ⟨i0, hinf, hz0, hz1, hz2⟩ := info_parts info_u8
  unfold Own at ho
  cases q with
  | none =>
    have := hq rfl
    subst this
    have ha : a = [] := by
      rcases hs with h | ⟨b, off, h, _⟩
      · exact h
      · cases h
    subst ha
    have hrun := run_append_owned_none (P := Tryd.prog) (w := w) B 23 T 5 i0 1 Tryd.underlying23 hinf v N.length _ ho
    refine ⟨v, w, hrun, ?_, World.grownBy.refl _ _⟩
    unfold Own
    rw [List.append_nil]; exact ho
  | some ad =>
    have hn : ∀ j u, (a.map fun d => Value.int .u8 (d : Nat))[j]? = some u → w.cell? (ad.add j) = some u := by
      rcases hs with h | ⟨b, off, h, hc⟩
      · subst h; intro j u hu; simp at hu
      · simp only [Option.some.injEq] at h
        subst h
        exact news8_at hc
    obtain ⟨v', w', h1, h2, h3, _⟩ := run_append_own (P := Tryd.prog) (w := w) B 23 T 5 i0 (.int .u8 0) 1 1 Tryd.underlying23 hinf hz0 hz1 hz2 rfl (by decide) v N.length _ ho ad a.length cq (a.map fun d => Value.int .u8 (d : Nat)) (by simp) hn (by intro u hu; rw [List.mem_map] at hu; obtain ⟨d, _, rfl⟩ := hu; rfl) (by simp only [maxLen]; omega) (by omega) hB
    refine ⟨v', w', h1, ?_, h3⟩
    unfold Own
    rw [List.length_append, List.map_append]
    exact h2

theorem bytes_any (c : Nat) (w : World) (h : c ≤ 1114111) : Calls Tryd.prog 33 #[.int .i64 (c : Nat)] w fun e w' => ∃ p cp, e = .returned (.slice p (encN c).length cp) ∧ Own w' w.heap.size 5 .u8 (.slice p (encN c).length cp) (encN c) ∧ Below w.heap.size w w' := by
  by_cases h1 : c ≤ 127
  · exact bytes_1 c w (by omega) h1
  by_cases h2 : c ≤ 2047
  · exact bytes_2 c w (by omega) h2
  by_cases h3 : c ≤ 65535
  · exact bytes_3 c w (by omega) h3
  · exact bytes_4 c w (by omega) h

set_option maxHeartbeats 1600000 in
set_option maxRecDepth 100000 in
theorem rtext_any (p : Option Addr) (cp : Nat) (l : List Int) (w : World) (hp : SlI w p l) (hl : l.length ≤ 4611686018427387904) :
    Calls Tryd.prog 18 #[.slice p l.length cp] w (TextPost (textR l) w) := by
  obtain ⟨n, hn⟩ : ∃ n, n = l.length := ⟨_, rfl⟩
  rw [← hn]
  have hnI : (n : Int) ≤ 4611686018427387904 := by omega
  have HN := Lib.hid hn
  have HP := Lib.hid hp
  clear hp hn hl
  go_enter Tryd.func18, Tryd.ntmps18
  go_wp2
  go_loopw [4, 5] (fun tv iv wr => ∃ (k : Nat) (M : List Nat) (q : Option Addr) (cq : Nat), k ≤ n ∧ iv = .int .i64 (k : Nat) ∧ tv = .slice q M.length cq ∧ Hid (M = encI (l.take k)) ∧ Hid (M.length ≤ 65536) ∧ Hid (∀ j, j < k → wrB (gi l j) = true) ∧ Hid (Own wr w.heap.size 5 .u8 (.slice q M.length cq) M) ∧ Hid (Below w.heap.size w wr)) (fun _ iv _ => n - (intOf iv).toNat)
  case atStart => exact ⟨0, [], none, 0, Nat.zero_le _, rfl, rfl, rfl, Nat.zero_le _, fun j hj => by omega, own_nil _ _ _ _, Below.refl _ _⟩
  case round =>
    obtain ⟨k, M, q, cq, hk, rfl, rfl, HM, HML, HW, HO, HB⟩ := hrel
    rename World => wr
    by_cases hkn : k < n
    · obtain ⟨b1, o1, rfl, hc0, hc1⟩ : ∃ b off, p = some ⟨b, off, none⟩ ∧ w.cell? ⟨b, off + k, none⟩ = some (.int .i64 (gi l k)) ∧ wr.cell? ⟨b, off + k, none⟩ = some (.int .i64 (gi l k)) := by
        have hkl : k < l.length := by have := HN.out; omega
        rcases HP.out with h | ⟨b, off, h1, h2⟩
        · rw [h] at hkl; simp at hkl
        · have h3 := h2 k hkl
          exact ⟨b, off, h1, h3, by rw [HB.out.cell (World.block_lt_of_cell? w _ h3)]; exact h3⟩
      have hkI : (k : Int) < n := by omega
      obtain ⟨x, hx⟩ : ∃ x, x = gi l k := ⟨_, rfl⟩
      rw [← hx] at hc1 hc0
      have HX := Lib.hid hx
      have HC0 := Lib.hid hc0
      clear hx hc0
      rcases hw : wrB x with _ | _
      · go_wp2_with (go_at_call 32; refine (whole_any _ _).mono ?_; rintro e w' ⟨rfl, rfl⟩; rw [hw])
        go_ret2
        refine ⟨?_, HB.out⟩
        rw [textR_no (k := k) (by have := HN.out; omega) (by rw [← HX.out]; exact hw)]
        rfl
      · have hwh := wrB_iff.1 hw
        obtain ⟨c, rfl⟩ := Int.eq_ofNat_of_zero_le hwh.1
        have HBY := Lib.hid (bytes_any c wr (by have := hwh.2.1; simpa using this))
        have HW1 := Lib.hid hw
        have HEL := Lib.hid (encN_len c)
        clear hwh
        go_wp2_with (go_at_call 32; refine (whole_any _ _).mono ?_; rintro e w' ⟨rfl, rfl⟩; rw [hw])
        refine HBY.out.mono ?_
        rintro e w2 ⟨p2, c2, rfl, ho2, hb2⟩
        obtain ⟨_, _, hf2, _, _, hnil2, hsl2, _⟩ := own_form ho2
        simp only [Value.slice.injEq, true_and] at hf2
        obtain ⟨rfl, rfl⟩ := hf2
        obtain ⟨v3, w3, hr1, hr2, hr3⟩ := run_join8 (w := w2) 23 (own_below HO.out hb2) hsl2 hnil2 (by have := HML.out; have := HEL.out; omega) (by have := HB.out.size; have := hb2.size; omega)
        have hb3 : Below w.heap.size w w3 := (HB.out.trans (hb2.mono HB.out.size)).grown hr3 (by have := HB.out.size; have := hb2.size; omega) (fun k hk => ((own_below HO.out hb2).lt k hk).1)
        obtain ⟨q3, c3, hv3, _⟩ := own_form hr2
        subst hv3
        have HR1 := Lib.hid hr1
        have HR2 := Lib.hid hr2
        have HB3 := Lib.hid hb3
        obtain ⟨M2, hM2⟩ : ∃ M2, M2 = M ++ encN c := ⟨_, rfl⟩
        rw [← hM2] at HR1 HR2
        have HM2 := Lib.hid hM2
        clear hr1 hr2 hr3 hb3 hsl2 hnil2 ho2 hb2 hM2 hc1
        go_wp2_with (at_builtin; refine wpList_append_run (by rfl) _ _ 23 rfl _ _ _ rfl rfl HR1.out ?_)
        · have hlong : 65536 < M2.length := by first | assumption | omega
          go_ret2
          refine ⟨?_, HB3.out⟩
          rw [textR_long (k := k + 1) (l := l) (by
            rw [take_snoc l k (by have := HN.out; omega), encI_snoc, ← HX.out, ← HM.out, Int.toNat_natCast, ← HM2.out]; exact hlong)]
          rfl
        · have hshort : M2.length ≤ 65536 := by first | assumption | omega
          go_roundw
          case rel =>
            refine ⟨k + 1, M2, q3, c3, by omega, by go_num, rfl, ?_, hshort, ?_, ?_, HB3.out⟩
            · show M2 = _
              rw [take_snoc l k (by have := HN.out; omega), encI_snoc, ← HX.out, ← HM.out, Int.toNat_natCast, ← HM2.out]
            · intro j hj
              by_cases e : j = k
              · subst e; rw [← HX.out]; exact HW1.out
              · exact HW.out j (by omega)
            · exact HR2.out
          case measure => simp [intOf]; omega
    · have hkI : (n : Int) ≤ k := by omega
      have hkk : k = n := by omega
      have hall : l.all wrB = true := all_gi (fun j hj => HW.out j (by have := HN.out; omega))
      have hMM : M = encI l := by rw [HM.out, hkk, HN.out, List.take_length]
      have hby : ∀ b ∈ M, b < 256 := by rw [hMM]; exact encI_bytes hall
      have hcv := back_text HO.out hby
      have HRES : Hid (textR l = (M.map UInt8.ofNat, true)) := by
        show textR l = _
        unfold textR
        rw [if_pos ⟨hall, by rw [← hMM]; exact HML.out⟩, ← hMM]
      clear hkk hall hMM hby
      go_wp2
      go_ret2
      refine ⟨?_, HB.out⟩
      rw [HRES.out]
      rfl
end Go.Proofs.YtalnfbbggmhbfaaDoor
