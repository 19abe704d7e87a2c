/- The walks of the document's Add and Mul. -/
import Derived.Test.YtcahnkocfbcchaaGreatDoorNh
import Derived.Test.YtcahnkocfbcchaaGreatDoorWi

namespace Go.Proofs.YtcahnkocfbcchaaGreatDoor
open Go.RowKit Tnd

theorem sumv_lt : ∀ (L : List (List Nat)), (∀ l, l ∈ L → Digs 4294967296 l) → sumv L < 2 ^ (32 * tot L + L.length + 1)
  | [], _ => by simp [sumv, tot]
  | l :: L, h => by
    have ih := sumv_lt L fun x hx => h x (List.mem_cons_of_mem _ hx)
    have h1 := nv_lt 4294967296 l (h l (by simp))
    have e : (4294967296 : Nat) ^ l.length = 2 ^ (32 * l.length) := by rw [Nat.pow_mul]
    rw [e] at h1
    show nv 4294967296 l + sumv L < 2 ^ (32 * (l.length + tot L) + (L.length + 1) + 1)
    have h2 : (2 : Nat) ^ (32 * l.length) ≤ 2 ^ (32 * (l.length + tot L) + L.length + 1) := Nat.pow_le_pow_right (by omega) (by omega)
    have h3 : (2 : Nat) ^ (32 * tot L + L.length + 1) ≤ 2 ^ (32 * (l.length + tot L) + L.length + 1) := Nat.pow_le_pow_right (by omega) (by omega)
    have h4 : (2 : Nat) ^ (32 * (l.length + tot L) + (L.length + 1) + 1) = 2 ^ (32 * (l.length + tot L) + L.length + 1) * 2 := by rw [← Nat.pow_succ]; congr 1
    omega
theorem prodv_lt : ∀ (L : List (List Nat)), (∀ l, l ∈ L → Digs 4294967296 l) → prodv L < 2 ^ (32 * tot L + L.length + 1)
  | [], _ => by simp [prodv, tot]
  | l :: L, h => by
    have ih := prodv_lt L fun x hx => h x (List.mem_cons_of_mem _ hx)
    have h1 := nv_lt 4294967296 l (h l (by simp))
    have e : (4294967296 : Nat) ^ l.length = 2 ^ (32 * l.length) := by rw [Nat.pow_mul]
    rw [e] at h1
    show nv 4294967296 l * prodv L < 2 ^ (32 * (l.length + tot L) + (L.length + 1) + 1)
    have h2 : nv 4294967296 l * prodv L ≤ 2 ^ (32 * l.length) * 2 ^ (32 * tot L + L.length + 1) := Nat.mul_le_mul (by omega) (by omega)
    rw [← Nat.pow_add] at h2
    refine Nat.lt_of_le_of_lt h2 (Nat.pow_lt_pow_right (by omega) (by omega))
theorem nv_lt32 (l : List Nat) (h : Digs 4294967296 l) : nv 4294967296 l < 2 ^ (32 * l.length) := by
  have h1 := nv_lt 4294967296 l h
  rw [Nat.pow_mul]; exact h1
theorem nats_digs {w : World} {B : Nat} {p : Option Addr} {L : List (List Nat)} (h : NatsIn w B p L) : ∀ l, l ∈ L → Digs 4294967296 l := by
  intro l hl
  obtain ⟨k, hk, rfl⟩ := List.mem_iff_getElem.1 hl
  rcases h with h | ⟨b, off, _, _, h3⟩
  · subst h; simp at hk
  · obtain ⟨q, c, _, _, h5, _⟩ := h3 k hk
    rw [← gl_at hk]; exact h5
theorem nats_take {w : World} {B : Nat} {p : Option Addr} {L : List (List Nat)} (h : NatsIn w B p L) (k : Nat) : ∀ l, l ∈ L.take k → Digs 4294967296 l := fun l hl => nats_digs h l (List.mem_of_mem_take hl)

set_option maxHeartbeats 1600000 in
set_option maxRecDepth 100000 in
theorem radd_any (p : Option Addr) (c : Nat) (L : List (List Nat)) (w : World) (hin : NatsIn w w.heap.size p L) (hL : L.length ≤ 1000000) (ht : tot L ≤ 1000000) :
    Calls Tryz.prog 55 #[.slice p L.length c] w fun e w' => ∃ v, e = .returned v ∧ FNat w' w.heap.size v (sumv L) ∧ Below w.heap.size w w' := by
  have HI := Lib.hid hin
  have HT := Lib.hid ht
  clear hin ht
  obtain ⟨w0, hw0⟩ : ∃ w0, w0 = w.alloc (.cells #[.slice none 0 0] 24) := ⟨_, rfl⟩
  have hB0 : Below w.heap.size w w0 := by subst hw0; exact (Below.refl _ _).alloc (Nat.le_refl _) _
  have hR0 : w0.heap[w.heap.size]? = some (.cells #[.slice none 0 0] 24 (0, 0)) := by subst hw0; exact heap_alloc_new w _
  have hs0 : w0.heap.size = w.heap.size + 1 := by subst hw0; simp
  have HB0 := Lib.hid hB0
  have HR0 := Lib.hid hR0
  have HS0 := Lib.hid hs0
  have HW0 := Lib.hid hw0
  have hLI : (L.length : Int) ≤ 1000000 := by omega
  have HLL := Lib.hid hL
  clear hB0 hR0 hs0 hw0 hL
  go_enter Tryz.func55, Tryz.ntmps55
  go_wp2_with (rw [← HW0.out])
  try rw [← HW0.out]
  go_loopw [3, 4] (fun v iv wr => ∃ (k : Nat) (q : Option Addr) (qc : Nat) (N : List Nat), k ≤ L.length ∧ iv = .int .i64 k ∧ v = .slice q N.length qc ∧ Hid (DRow wr w0.heap.size q qc N (sumv (L.take k))) ∧ Hid (Below w0.heap.size w0 wr)) (fun _ i _ => L.length - (intOf i).toNat)
  case atStart => exact ⟨0, none, 0, [], by omega, rfl, rfl, ⟨own_nil _ _ _ _, (fun x hx => nomatch hx), right_nil, by simp [nv, sumv]⟩, Below.refl _ _⟩
  case round =>
    obtain ⟨k, q, qc, N, hk, rfl, rfl, HDR, HB⟩ := hrel
    rename World => wr
    have hNl : N.length ≤ 40000000 := by
      obtain ⟨_, _, hr, hv⟩ := HDR.out
      have h1 := dlen hr hv (sumv_lt _ (nats_take HI.out k))
      have h2 := tot_take L k
      have h3 : (L.take k).length ≤ k := by rw [List.length_take]; omega
      have := HT.out
      have := HLL.out
      omega
    have HNL := Lib.hid hNl
    clear hNl
    by_cases hk1 : k < L.length
    · have hbb := HB0.out.trans (HB.out.mono (by rw [HS0.out]; omega))
      obtain ⟨b, off, rfl, qk, ck, hck, hok, hdk, hrk⟩ : ∃ b off, p = some ⟨b, off, none⟩ ∧ ∃ qk ck, wr.cell? ⟨b, off + k, none⟩ = some (.slice qk (gl L k).length ck) ∧ Old wr w0.heap.size qk (gl L k) ∧ Digs 4294967296 (gl L k) ∧ (gl L k).length ≤ ck ∧ ck ≤ 9223372036854775807 ∧ (qk = none → ck = 0) := by
        rcases HI.out with h | ⟨b, off, h1, h2, h3⟩
        · subst h; simp at hk1
        · obtain ⟨qk, ck, h4, h5, h6⟩ := h3 k hk1
          exact ⟨b, off, h1, qk, ck, by rw [hbb.cell (by simpa using h2)]; exact h4, (h5.below hbb).up (by rw [HS0.out]; omega), h6⟩
      have htk := tot_step hk1
      have htk2 := tot_take L (k + 1)
      have hpk := take_gl hk1
      have hyl : (gl L k).length ≤ 1000000 := by have := HT.out; omega
      have hvk : sumv (L.take (k + 1)) = sumv (L.take k) + nv 4294967296 (gl L k) := by rw [hpk, sumv_snoc]
      have HIN := Lib.hid (in_any qk ck (gl L k) wr hok.sl hdk (by omega))
      have HVK := Lib.hid hvk
      have HLT := Lib.hid (nv_lt32 _ hdk)
      have hkI : (k : Int) < L.length := by omega
      clear hok hdk hrk htk htk2 hpk hbb hvk
      generalize gl L k = y at *
      go_wp2_with fail
      refine HIN.out.mono ?_
      rintro e w2 ⟨q2, qc2, M, rfl, hdr2, hb2⟩
      obtain ⟨ho2, hd2, hr2, hv2⟩ := hdr2
      obtain ⟨q2', c2', e2, _, _, _, hs2, _⟩ := own_form ho2
      simp only [Value.slice.injEq, true_and] at e2
      obtain ⟨rfl, rfl⟩ := e2
      obtain ⟨ho1, hd1, hr1, hv1⟩ := HDR.out
      have ho1' := own_below ho1 hb2
      obtain ⟨q1', c1', e1, _, _, _, hs1, _⟩ := own_form ho1'
      simp only [Value.slice.injEq, true_and] at e1
      obtain ⟨rfl, rfl⟩ := e1
      have hml : M.length ≤ 32 * y.length := dlen hr2 hv2 HLT.out
      have hsm := rsum_any q q2 qc qc2 N M w2 hs1 hs2 hd1 hd2 (by have := HNL.out; omega) (by omega)
      unfold SumPost at hsm
      rw [hv1, hv2, ← HVK.out] at hsm
      have HSM := Lib.hid hsm
      have HB2 := Lib.hid (HB.out.trans (hb2.mono HB.out.size))
      clear hsm ho2 hd2 hr2 hv2 hs2 ho1 hd1 hr1 hv1 ho1' hs1 hb2 hml HIN
      go_wp2_with fail
      refine HSM.out.mono ?_
      rintro e w3 ⟨q3, qc3, M3, rfl, hdr3, hb3⟩
      have HDR3 : Hid (DRow w3 w0.heap.size q3 qc3 M3 (sumv (L.take (k + 1)))) := ⟨own_down hdr3.1 HB2.out.size, hdr3.2⟩
      have HB3 := Lib.hid (HB2.out.trans (hb3.mono HB2.out.size))
      clear hdr3 hb3 HSM
      go_wp2
      go_roundw
      case rel => exact ⟨k + 1, q3, qc3, M3, by omega, by go_num, rfl, HDR3, HB3⟩
      case measure => simp [intOf]; omega
    · obtain rfl : k = L.length := by omega
      obtain ⟨ho1, hd1, hr1, hv1⟩ := HDR.out
      obtain ⟨q1', c1', e1, _, _, hn1, hs1, _⟩ := own_form ho1
      simp only [Value.slice.injEq, true_and] at e1
      obtain ⟨rfl, rfl⟩ := e1
      have hout := out_any q qc N wr hs1 hn1 hd1 hr1 (by have := HNL.out; omega)
      rw [hv1, List.take_length] at hout
      have HOUT := Lib.hid hout
      clear hout ho1 hd1 hr1 hv1 hn1 hs1
      go_wp2_with fail
      refine HOUT.out.mono ?_
      rintro e w7 ⟨v, rfl, hf7, hb7⟩
      have hbw := HB.out.trans (hb7.mono HB.out.size)
      have hR7 : w7.heap[w.heap.size]? = some (.cells #[.slice none 0 0] 24 (0, 0)) := by rw [hbw.block _ (by rw [HS0.out]; omega)]; exact HR0.out
      have hcr := cell_of_one hR7
      have hfr := free_of_one hR7
      have HR7 := Lib.hid hR7
      have HF7 := Lib.hid hf7
      have HB7 := Lib.hid (HB0.out.trans (hbw.mono (by rw [HS0.out]; omega)))
      have HSZ := Lib.hid HB.out.size
      clear hR7 hf7 hb7 hbw HOUT
      obtain ⟨rp, rc, rl, hv, _⟩ := HF7.out
      subst hv
      go_wp2
      refine bodyPost_ret (v := .agg #[.slice rp rl.length rc]) (by simp [results, Tryz.results55, go_sem, hcr]) rfl ?_
      exact ⟨_, rfl, (HF7.out.setCell HR7.out (by decide) _).down (by have := HSZ.out; have := HS0.out; omega), HB7.out.setCell (by simp) _⟩

set_option maxHeartbeats 1600000 in
set_option maxRecDepth 100000 in
theorem rmul_any (p : Option Addr) (c : Nat) (L : List (List Nat)) (w : World) (hin : NatsIn w w.heap.size p L) (hL : L.length ≤ 1000000) (ht : tot L ≤ 1000000) :
    Calls Tryz.prog 56 #[.slice p L.length c] w fun e w' => ∃ v, e = .returned v ∧ FNat w' w.heap.size v (prodv L) ∧ Below w.heap.size w w' := by
  have HI := Lib.hid hin
  have HT := Lib.hid ht
  clear hin ht
  obtain ⟨w0, hw0⟩ : ∃ w0, w0 = w.alloc (.cells #[.slice none 0 0] 24) := ⟨_, rfl⟩
  have hB0 : Below w.heap.size w w0 := by subst hw0; exact (Below.refl _ _).alloc (Nat.le_refl _) _
  have hR0 : w0.heap[w.heap.size]? = some (.cells #[.slice none 0 0] 24 (0, 0)) := by subst hw0; exact heap_alloc_new w _
  have hs0 : w0.heap.size = w.heap.size + 1 := by subst hw0; simp
  have HB0 := Lib.hid hB0
  have HR0 := Lib.hid hR0
  have HS0 := Lib.hid hs0
  have HW0 := Lib.hid hw0
  have hLI : (L.length : Int) ≤ 1000000 := by omega
  have HLL := Lib.hid hL
  have hD1 : DRow (w0.alloc (.cells #[.int .u8 1] 5)) w0.heap.size (some ⟨w0.heap.size, 0, none⟩) 1 [1] 1 := by
    refine ⟨?_, ?_, ?_, ?_⟩
    · have h := World.ownsRow_lit (base := w0.heap.size) (e := 5) (size := 1) w0 #[.int .u8 1] 1 (by omega) (by simp only [maxLen]; omega) (by simp)
      unfold Own
      simpa using h
    · intro x hx; simp only [List.mem_singleton] at hx; omega
    · simp [RightL]
    · simp [nv]
  have HD1 := Lib.hid hD1
  have E1 : Hid (w.heap.size + 1 = w0.heap.size) := hs0.symm
  clear hD1
  clear hB0 hR0 hs0 hw0 hL
  go_enter Tryz.func56, Tryz.ntmps56
  go_wp2_with (rw [← HW0.out])
  try rw [← HW0.out]
  try rw [E1.out]
  go_loopw [3, 4] (fun v iv wr => ∃ (k : Nat) (q : Option Addr) (qc : Nat) (N : List Nat), k ≤ L.length ∧ iv = .int .i64 k ∧ v = .slice q N.length qc ∧ Hid (DRow wr w0.heap.size q qc N (prodv (L.take k))) ∧ Hid (Below w0.heap.size w0 wr)) (fun _ i _ => L.length - (intOf i).toNat)
  case atStart => exact ⟨0, some ⟨w0.heap.size, 0, none⟩, 1, [1], by omega, rfl, rfl, HD1, (Below.refl _ _).alloc (Nat.le_refl _) _⟩
  case round =>
    obtain ⟨k, q, qc, N, hk, rfl, rfl, HDR, HB⟩ := hrel
    rename World => wr
    have hNl : N.length ≤ 40000000 := by
      obtain ⟨_, _, hr, hv⟩ := HDR.out
      have h1 := dlen hr hv (prodv_lt _ (nats_take HI.out k))
      have h2 := tot_take L k
      have h3 : (L.take k).length ≤ k := by rw [List.length_take]; omega
      have := HT.out
      have := HLL.out
      omega
    have HNL := Lib.hid hNl
    clear hNl
    by_cases hk1 : k < L.length
    · have hbb := HB0.out.trans (HB.out.mono (by rw [HS0.out]; omega))
      obtain ⟨b, off, rfl, qk, ck, hck, hok, hdk, hrk⟩ : ∃ b off, p = some ⟨b, off, none⟩ ∧ ∃ qk ck, wr.cell? ⟨b, off + k, none⟩ = some (.slice qk (gl L k).length ck) ∧ Old wr w0.heap.size qk (gl L k) ∧ Digs 4294967296 (gl L k) ∧ (gl L k).length ≤ ck ∧ ck ≤ 9223372036854775807 ∧ (qk = none → ck = 0) := by
        rcases HI.out with h | ⟨b, off, h1, h2, h3⟩
        · subst h; simp at hk1
        · obtain ⟨qk, ck, h4, h5, h6⟩ := h3 k hk1
          exact ⟨b, off, h1, qk, ck, by rw [hbb.cell (by simpa using h2)]; exact h4, (h5.below hbb).up (by rw [HS0.out]; omega), h6⟩
      have htk := tot_step hk1
      have htk2 := tot_take L (k + 1)
      have hpk := take_gl hk1
      have hyl : (gl L k).length ≤ 1000000 := by have := HT.out; omega
      have hvk : prodv (L.take (k + 1)) = prodv (L.take k) * nv 4294967296 (gl L k) := by rw [hpk, prodv_snoc]
      have HIN := Lib.hid (in_any qk ck (gl L k) wr hok.sl hdk (by omega))
      have HVK := Lib.hid hvk
      have HLT := Lib.hid (nv_lt32 _ hdk)
      have hkI : (k : Int) < L.length := by omega
      clear hok hdk hrk htk htk2 hpk hbb hvk
      generalize gl L k = y at *
      go_wp2_with fail
      refine HIN.out.mono ?_
      rintro e w2 ⟨q2, qc2, M, rfl, hdr2, hb2⟩
      obtain ⟨ho2, hd2, hr2, hv2⟩ := hdr2
      obtain ⟨q2', c2', e2, _, _, _, hs2, _⟩ := own_form ho2
      simp only [Value.slice.injEq, true_and] at e2
      obtain ⟨rfl, rfl⟩ := e2
      obtain ⟨ho1, hd1, hr1, hv1⟩ := HDR.out
      have ho1' := own_below ho1 hb2
      obtain ⟨q1', c1', e1, _, _, _, hs1, _⟩ := own_form ho1'
      simp only [Value.slice.injEq, true_and] at e1
      obtain ⟨rfl, rfl⟩ := e1
      have hml : M.length ≤ 32 * y.length := dlen hr2 hv2 HLT.out
      have hsm := rprod_any q q2 qc qc2 N M w2 hs1 hs2 hd1 hd2 (by have := HNL.out; omega) (by omega)
      unfold MulPost at hsm
      rw [hv1, hv2, ← HVK.out] at hsm
      have HSM := Lib.hid hsm
      have HB2 := Lib.hid (HB.out.trans (hb2.mono HB.out.size))
      clear hsm ho2 hd2 hr2 hv2 hs2 ho1 hd1 hr1 hv1 ho1' hs1 hb2 hml HIN
      go_wp2_with fail
      refine HSM.out.mono ?_
      rintro e w3 ⟨q3, qc3, M3, rfl, hdr3, hb3⟩
      have HDR3 : Hid (DRow w3 w0.heap.size q3 qc3 M3 (prodv (L.take (k + 1)))) := ⟨own_down hdr3.1 HB2.out.size, hdr3.2⟩
      have HB3 := Lib.hid (HB2.out.trans (hb3.mono HB2.out.size))
      clear hdr3 hb3 HSM
      go_wp2
      go_roundw
      case rel => exact ⟨k + 1, q3, qc3, M3, by omega, by go_num, rfl, HDR3, HB3⟩
      case measure => simp [intOf]; omega
    · obtain rfl : k = L.length := by omega
      obtain ⟨ho1, hd1, hr1, hv1⟩ := HDR.out
      obtain ⟨q1', c1', e1, _, _, hn1, hs1, _⟩ := own_form ho1
      simp only [Value.slice.injEq, true_and] at e1
      obtain ⟨rfl, rfl⟩ := e1
      have hout := out_any q qc N wr hs1 hn1 hd1 hr1 (by have := HNL.out; omega)
      rw [hv1, List.take_length] at hout
      have HOUT := Lib.hid hout
      clear hout ho1 hd1 hr1 hv1 hn1 hs1
      go_wp2_with fail
      refine HOUT.out.mono ?_
      rintro e w7 ⟨v, rfl, hf7, hb7⟩
      have hbw := HB.out.trans (hb7.mono HB.out.size)
      have hR7 : w7.heap[w.heap.size]? = some (.cells #[.slice none 0 0] 24 (0, 0)) := by rw [hbw.block _ (by rw [HS0.out]; omega)]; exact HR0.out
      have hcr := cell_of_one hR7
      have hfr := free_of_one hR7
      have HR7 := Lib.hid hR7
      have HF7 := Lib.hid hf7
      have HB7 := Lib.hid (HB0.out.trans (hbw.mono (by rw [HS0.out]; omega)))
      have HSZ := Lib.hid HB.out.size
      clear hR7 hf7 hb7 hbw HOUT
      obtain ⟨rp, rc, rl, hv, _⟩ := HF7.out
      subst hv
      go_wp2
      refine bodyPost_ret (v := .agg #[.slice rp rl.length rc]) (by simp [results, Tryz.results56, go_sem, hcr]) rfl ?_
      exact ⟨_, rfl, (HF7.out.setCell HR7.out (by decide) _).down (by have := HSZ.out; have := HS0.out; omega), HB7.out.setCell (by simp) _⟩
end Go.Proofs.YtcahnkocfbcchaaGreatDoor
