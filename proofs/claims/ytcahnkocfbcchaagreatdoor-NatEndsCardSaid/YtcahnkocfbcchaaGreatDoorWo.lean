/- The walks of Sub where the first is below the second, of Parse where there is a 0 ahead. -/
/- The walk of awake: the chapter's examples. -/
import Derived.Test.YtcahnkocfbcchaaGreatDoorWm
import Derived.Test.YtcahnkocfbcchaaGreatDoorWg
import Derived.Deep.RegionHeld3

namespace Go.Proofs.YtcahnkocfbcchaaGreatDoor
open Go.RowKit Tnd

theorem txt64 : Lib.decDigits 18446744073709551616 = [49, 56, 52, 52, 54, 55, 52, 52, 48, 55, 51, 55, 48, 57, 53, 53, 49, 54, 49, 54] := by
  repeat (first | (rw [dec_small (by omega)]; done) | rw [dec_big (by omega)])
  rw [dec_small (by omega)]
  rfl

set_option maxRecDepth 100000 in
theorem sub_lt (p1 p2 : Option Addr) (c1 c2 : Nat) (l m : List Nat) (w : World) (h1 : NatIn w w.heap.size (.agg #[.slice p1 l.length c1]) l) (h2 : NatIn w w.heap.size (.agg #[.slice p2 m.length c2]) m) (hl : l.length ≤ 1000000) (hm : m.length ≤ 1000000) (hlt : nv 4294967296 l < nv 4294967296 m) :
    Calls Tryz.prog 9 #[.agg #[.slice p1 l.length c1], .agg #[.slice p2 m.length c2]] w fun e w' => e = .returned (.tuple #[.agg #[.slice none 0 0], .bool false]) ∧ Below w.heap.size w w' := by
  obtain ⟨w0, hw0⟩ : ∃ w0, w0 = ((w.alloc (.cells #[.slice p1 l.length c1] 24)).alloc (.cells #[.slice p2 m.length c2] 24)).alloc (.cells #[.slice none 0 0] 24) := ⟨_, rfl⟩
  have hB : Below w.heap.size w w0 := by subst hw0; exact (((Below.refl _ _).alloc (Nat.le_refl _) _).alloc (by simp) _).alloc (by simp; omega) _
  have hc1 : w0.cell? ⟨w.heap.size, 0, none⟩ = some (.slice p1 l.length c1) := by subst hw0; rw [World.cell?_alloc_past _ _ _ (by simp; omega), World.cell?_alloc_past _ _ _ (by simp), World.cell?_alloc_at _ _ _ _ rfl]; rfl
  have hc2 : w0.cell? ⟨w.heap.size + 1, 0, none⟩ = some (.slice p2 m.length c2) := by subst hw0; rw [World.cell?_alloc_past _ _ _ (by simp), World.cell?_alloc_at _ _ _ _ (by simp)]; rfl
  have hr : w0.heap[w.heap.size + 2]? = some (.cells #[.slice none 0 0] 24 (0, 0)) := by
    subst hw0
    have h := heap_alloc_new ((w.alloc (.cells #[.slice p1 l.length c1] 24)).alloc (.cells #[.slice p2 m.length c2] 24)) (.cells #[.slice none 0 0] 24)
    simpa using h
  have hs0 : w0.heap.size = w.heap.size + 3 := by subst hw0; simp
  have HC := Lib.hid (cmp_any _ _ l m w0 ((h1.below hB).up (by omega)) ((h2.below hB).up (by omega)) (by omega) (by omega))
  have ho : ord (nv 4294967296 l) (nv 4294967296 m) = -1 := by unfold ord; rw [if_pos hlt]
  have HO := Lib.hid ho
  have HB := Lib.hid hB
  have HR := Lib.hid hr
  have HW0 := Lib.hid hw0
  clear hw0 hB hr h1 h2 ho hlt
  go_enter Tryz.func9, Tryz.ntmps9
  go_wp2_with fail
  rw [← HW0.out]
  refine HC.out.mono ?_
  rintro e w1 ⟨rfl, hb1⟩
  rw [HO.out]
  have hr1 : w1.heap[w.heap.size + 2]? = some (.cells #[.slice none 0 0] 24 (0, 0)) := by rw [hb1.block _ (by omega)]; exact HR.out
  have hcr := cell_of_one hr1
  have hfr := free_of_one hr1
  have HB1 := Lib.hid hb1
  clear hr1 hb1 hc1 hc2
  go_wp2
  refine bodyPost_ret (v := .tuple #[.agg #[.slice none 0 0], .bool false]) (by simp [results, Tryz.results9, go_sem, hcr]) rfl ?_
  exact ⟨rfl, (HB.out.trans (HB1.out.mono (by omega))).setCell (by simp; omega) _⟩

set_option maxRecDepth 100000 in
theorem parse007 (w : World) : Calls Tryz.prog 28 #[.string ⟨#[48, 48, 55]⟩] w fun e w' => e = .returned (.tuple #[.agg #[.slice none 0 0], .bool false]) ∧ Below w.heap.size w w' := by
  go_enter Tryz.func28, Tryz.ntmps28
  go_wp2
  refine bodyPost_ret (v := .tuple #[.agg #[.slice none 0 0], .bool false]) (by simp [results, Tryz.results28, go_sem]) rfl ?_
  exact ⟨rfl, (Below.refl _ _).alloc (Nat.le_refl _) _⟩

theorem FNat.nat {w : World} {B : Nat} {v : Value} {n : Nat} (h : FNat w B v n) : ∃ p c l, v = .agg #[.slice p l.length c] ∧ NatIn w w.heap.size v l ∧ RightL l ∧ nv 4294967296 l = n ∧ Digs 4294967296 l ∧ Own w B 46 .u32 (.slice p l.length c) l := by
  obtain ⟨p, c, l, rfl, ho, hd, hr, hn⟩ := h
  obtain ⟨p', c', he, h1, h2, h3, _, _⟩ := own_form ho
  simp only [Value.slice.injEq, true_and] at he
  obtain ⟨rfl, rfl⟩ := he
  exact ⟨p, c, l, rfl, ⟨p, c, rfl, own_old ho, hd, h1, h2, h3⟩, hr, hn, hd, ho⟩
theorem of_int (z : Int) (n : Nat) (hz : z = (n : Nat)) (w : World) (hn : n < 18446744073709551616) :
    Calls Tryz.prog 18 #[.int .u64 z] w fun e w' => ∃ v, e = .returned v ∧ FNat w' w.heap.size v n ∧ Below w.heap.size w w' := by
  subst hz; exact of_any n w hn
theorem pow_int (z : Int) (n : Nat) (hz : z = (n : Nat)) (v : Value) (l : List Nat) (w : World) (hin : NatIn w w.heap.size v l) (hn : n ≤ 9223372036854775807) (hl : l.length ≤ 10000000000) (hb : nv 4294967296 l ^ n < tooBig) :
    Calls Tryz.prog 24 #[v, .int .i64 z] w fun e w' =>
      ∃ v, e = .returned (.tuple #[v, .int .i64 0]) ∧ FNat w' w.heap.size v (nv 4294967296 l ^ n) ∧ Below w.heap.size w w' := by
  subst hz
  refine (pow_pos v l n w hin hn hl).mono ?_
  rintro e w' ⟨v, c, rfl, hs, hB⟩
  rcases hs with ⟨_, rfl, h⟩ | ⟨h, _⟩
  · exact ⟨v, rfl, h, hB⟩
  · omega
theorem small_big (a k n : Nat) (ha : a < 4294967296 ^ k) (hk : k * n ≤ 2000) : a ^ n < tooBig := by
  by_cases h0 : n = 0
  · subst h0; simpa using one_lt_big
  · have h1 : a ^ n < (4294967296 ^ k) ^ n := Nat.pow_lt_pow_left ha h0
    rw [← Nat.pow_mul] at h1
    exact Nat.lt_of_lt_of_le h1 (Nat.pow_le_pow_right (by omega) hk)
theorem len_small {l : List Nat} {n k : Nat} (hr : RightL l) (hv : nv 4294967296 l = n) (hn : n < 4294967296 ^ k) : l.length ≤ k := by
  by_cases h : l = []
  · subst h; simp
  · have h1 := right_ge 4294967296 l hr h
    rw [hv] at h1
    have h2 := (Nat.pow_lt_pow_iff_right (by omega : 1 < 4294967296)).1 (Nat.lt_of_le_of_lt h1 hn)
    omega
end Go.Proofs.YtcahnkocfbcchaaGreatDoor


namespace Go.Proofs.YtcahnkocfbcchaaGreatDoor
open Go.RowKit Tnd

theorem bl_trans {a b c : World} (h1 : Below a.heap.size a b) (h2 : Below b.heap.size b c) : Below a.heap.size a c := h1.trans (h2.mono h1.size)
theorem bl_alloc (a : World) (o : Obj) : Below a.heap.size a (a.alloc o) := (Below.refl _ _).alloc (Nat.le_refl _) _
theorem bl_drew (a : World) : Below a.heap.size a a.drew := (Below.refl _ _).drew
theorem cell_new {W z : World} {v : Value} {T : TypeId} (K : Below (W.alloc (.cells #[v] T)).heap.size (W.alloc (.cells #[v] T)) z) : z.cell? ⟨W.heap.size, 0, none⟩ = some v := by
  rw [K.cell (by simp), World.cell?_alloc_at _ _ _ _ rfl]; rfl
theorem FNat.same {w : World} {B1 B2 : Nat} {p q : Option Addr} {c d n l m : Nat} (h1 : FNat w B1 (.agg #[.slice p l c]) n) (h2 : FNat w B2 (.agg #[.slice q m d]) n) (hl : l ≤ 1000000) (hm : m ≤ 1000000) :
    Calls Tryz.prog 11 #[.agg #[.slice p l c], .agg #[.slice q m d]] w fun e w' => e = .returned (.bool true) ∧ Below w.heap.size w w' := by
  obtain ⟨p', c', l', e1, i1, r1, v1, d1, o1⟩ := h1.nat
  obtain ⟨q', d', m', e2, i2, r2, v2, d2, o2⟩ := h2.nat
  obtain ⟨_, _, f1, g1, _⟩ := i1
  obtain ⟨_, _, f2, g2, _⟩ := i2
  have hlm : l' = m' := nv_unique 4294967296 (by omega) l' m' d1 d2 r1 r2 (by rw [v1, v2])
  subst hlm
  simp only [Value.agg.injEq, Array.mk.injEq, List.cons.injEq, Value.slice.injEq, and_true] at e1 e2 f1 f2
  obtain ⟨rfl, rfl, rfl⟩ := e1
  obtain ⟨rfl, rfl, rfl⟩ := e2
  obtain ⟨rfl, _, _⟩ := f1
  obtain ⟨rfl, _, _⟩ := f2
  refine (same_any p q c d l' l' w g1.sl g2.sl (by omega) (by omega)).mono ?_
  rintro e w' ⟨rfl, hb⟩
  exact ⟨by simp, hb⟩
set_option maxHeartbeats 12800000 in
set_option maxRecDepth 100000 in
theorem awake_any (w : World) (htab : Lib.TabIs Tryz.prog w "internal/strconv.uint64pow10" .u64 Lib.pow10Tab) :
    Calls Tryz.prog 7 #[] w fun e w' => e = .returned (.bool true) ∧ Below w.heap.size w w' := by
  have HTAB := Lib.hid htab
  clear htab
  go_enter Tryz.func7, Tryz.ntmps7
  go_wp2_with fail
  refine (of_int 4294967296 4294967296 rfl _ (by omega)).mono ?_
  rintro e w1 ⟨va, rfl, hfa, hb1⟩
  obtain ⟨pa, ca, la, rfl, hna, hra, hva, hda, hoa⟩ := hfa.nat
  have HFA := Lib.hid hfa
  have HB1 := Lib.hid hb1
  have HVA := Lib.hid hva
  have HRA := Lib.hid hra
  have HDA := Lib.hid hda
  clear hfa hb1 hna hra hva hda hoa
  go_wp2_with fail
  refine (of_int 2 2 rfl _ (by omega)).mono ?_
  rintro e w2 ⟨v2, rfl, hf2, hb2⟩
  obtain ⟨p2, c2, l2, rfl, hn2, hr2, hv2, hd2, ho2⟩ := hf2.nat
  have hl2 : l2.length ≤ 1 := len_small hr2 hv2 (by decide)
  have hp := pow_int 64 64 rfl _ l2 w2 hn2 (by omega) (by omega) (by rw [hv2]; exact small_big 2 1 64 (by decide) (by omega))
  rw [hv2] at hp
  have HP := Lib.hid hp
  have HB2 := Lib.hid hb2
  clear hp hb2 hf2 hn2 hr2 hv2 hd2 ho2
  go_wp2_with fail
  refine HP.out.mono ?_
  rintro e w3 ⟨vb, rfl, hfb, hb3⟩
  obtain ⟨pb, cb, lb, rfl, hnb, hrb, hvb, hdb, hob⟩ := hfb.nat
  have HFB := Lib.hid hfb
  have HB3 := Lib.hid hb3
  have HVB := Lib.hid hvb
  clear hfb hb3 hnb hrb hvb hdb hob HP
  go_wp2_with fail
  have hp0 := fun W => pow_int 0 0 rfl (.agg #[.slice none 0 0]) [] W ⟨none, 0, rfl, .inl rfl, fun d hd => by simp at hd, by simp, by omega, fun _ => rfl⟩ (by omega) (by simp) (by rw [Nat.pow_zero]; exact one_lt_big)
  refine (hp0 _).mono ?_
  clear hp0
  rintro e w4 ⟨vc, rfl, hfc, hb4⟩
  rw [Nat.pow_zero] at hfc
  obtain ⟨pc, cc, lc, rfl, hnc, hrc, hvc, hdc, hoc⟩ := hfc.nat
  have HFC := Lib.hid hfc
  have HB4 := Lib.hid hb4
  clear hfc hb4 hnc hrc hvc hdc hoc
  go_wp2_with fail
  refine (of_int 1 1 rfl _ (by omega)).mono ?_
  rintro e w5 ⟨v1, rfl, hf1, hb5⟩
  have HF1 := Lib.hid hf1
  have HB5 := Lib.hid hb5
  clear hf1 hb5
  go_wp2_with fail
  refine (of_int 2 2 rfl _ (by omega)).mono ?_
  rintro e w6 ⟨v2', rfl, hf2, hb6⟩
  obtain ⟨q1, d1, m1, rfl, hn1, hr1, hv1, hd1, ho1⟩ := (HF1.out.below hb6).nat
  obtain ⟨q2, d2, m2, rfl, hn2, hr2, hv2, hd2, ho2⟩ := hf2.nat
  have hm1 : m1.length ≤ 1 := len_small hr1 hv1 (by decide)
  have hm2 : m2.length ≤ 1 := len_small hr2 hv2 (by decide)
  have HSUB := Lib.hid (sub_lt q1 q2 d1 d2 m1 m2 w6 hn1 hn2 (by omega) (by omega) (by omega))
  have HB6 := Lib.hid hb6
  clear hf2 hb6 hn1 hr1 hv1 hd1 ho1 hn2 hr2 hv2 hd2 ho2 HF1
  go_wp2_with fail
  refine HSUB.out.mono ?_
  rintro e w7 ⟨rfl, hb7⟩
  have HB7 := Lib.hid hb7
  clear hb7 HSUB
  go_wp2_with fail
  refine (parse007 _).mono ?_
  rintro e w8 ⟨rfl, hb8⟩
  have HB8 := Lib.hid hb8
  clear hb8
  have K4 := bl_trans HB5.out (bl_trans HB6.out (bl_trans HB7.out (bl_trans (bl_alloc w7 (.cells #[.slice none 0 0] 24)) (bl_trans HB8.out (bl_alloc w8 (.cells #[.slice none 0 0] 24))))))
  have K3 := bl_trans HB4.out (bl_trans (bl_alloc w4 (.cells #[.slice pc lc.length cc] 24)) K4)
  have K1 := bl_trans HB2.out (bl_trans HB3.out (bl_trans (bl_alloc w3 (.cells #[.slice pb lb.length cb] 24)) K3))
  have KW := bl_trans HB1.out (bl_trans (bl_alloc w1 (.cells #[.slice pa la.length ca] 24)) K1)
  go_wp2
  obtain ⟨z, hz⟩ : ∃ z, z = w8.alloc (.cells #[.slice none 0 0] 24) := ⟨_, rfl⟩
  rw [← hz] at K4 K3 K1 KW ⊢
  have k1 : z.cell? ⟨w1.heap.size, 0, none⟩ = some (.slice pa la.length ca) := cell_new K1
  have k3 : z.cell? ⟨w3.heap.size, 0, none⟩ = some (.slice pb lb.length cb) := cell_new K3
  have k4 : z.cell? ⟨w4.heap.size, 0, none⟩ = some (.slice pc lc.length cc) := cell_new K4
  have fa := HFA.out.below (bl_trans (bl_alloc w1 _) K1)
  have fb := HFB.out.below (bl_trans (bl_alloc w3 _) K3)
  have fc := HFC.out.below (bl_trans (bl_alloc w4 _) K4)
  have hla : la.length ≤ 2 := len_small HRA.out HVA.out (by decide)
  have post : ∀ W : World, Below z.heap.size z W → W.cell? ⟨w1.heap.size, 0, none⟩ = some (.slice pa la.length ca) ∧ W.cell? ⟨w3.heap.size, 0, none⟩ = some (.slice pb lb.length cb) ∧ W.cell? ⟨w4.heap.size, 0, none⟩ = some (.slice pc lc.length cc) := by
    intro W hW
    exact ⟨by rw [hW.cell (World.block_lt_of_cell? z _ k1)]; exact k1, by rw [hW.cell (World.block_lt_of_cell? z _ k3)]; exact k3, by rw [hW.cell (World.block_lt_of_cell? z _ k4)]; exact k4⟩
  obtain ⟨pb', cb', lb', eb, ib, rb, vb, db, ob⟩ := fb.nat
  have hlb : lb'.length ≤ 3 := len_small rb vb (by decide)
  obtain ⟨pc', cc', lc', ec, ic, rc, vc, dc, oc⟩ := fc.nat
  have hlc' : lc'.length ≤ 1 := len_small rc vc (by decide)
  have hlc : lc.length ≤ 1 := by
    simp only [Value.agg.injEq, Array.mk.injEq, List.cons.injEq, Value.slice.injEq, and_true] at ec
    omega
  have fo : FNat (z.alloc (.cells #[.int .u32 0, .int .u32 1] 46)).drew z.heap.size (.agg #[.slice (some ⟨z.heap.size, 0, none⟩) 2 2]) 4294967296 := by
    refine ⟨some ⟨z.heap.size, 0, none⟩, 2, [0, 1], rfl, own_lit z z.heap.size [0, 1] _ rfl (Nat.le_refl _) (by simp), ?_, ?_, ?_⟩
    · intro d hd; simp only [List.mem_cons, List.not_mem_nil, or_false] at hd; omega
    · simp [RightL]
    · simp [nv]
  have S1 := FNat.same (fa.below (bl_trans (bl_alloc z (.cells #[.int .u32 0, .int .u32 1] 46)) (bl_drew _))) fo (by omega) (by omega)
  have SAME1 : Hid (Calls Tryz.prog 11 #[.agg #[.slice pa la.length ca], .agg #[.slice (some ⟨z.heap.size, 0, none⟩) 2 2]] (z.alloc (.cells #[.int .u32 0, .int .u32 1] 46)).drew fun e w' => e = .returned (.bool true) ∧ Hid (Below z.heap.size z w') ∧ w'.cell? ⟨w1.heap.size, 0, none⟩ = some (.slice pa la.length ca) ∧ w'.cell? ⟨w3.heap.size, 0, none⟩ = some (.slice pb lb.length cb) ∧ w'.cell? ⟨w4.heap.size, 0, none⟩ = some (.slice pc lc.length cc)) :=
    S1.mono fun e w' ⟨h1, h2⟩ => have h3 := bl_trans (bl_trans (bl_alloc z _) (bl_drew _)) h2; ⟨h1, h3, post w' h3⟩
  have TEXT : Hid (∀ W, Hid (Below z.heap.size z W) → Calls Tryz.prog 16 #[.agg #[.slice pb lb.length cb]] W fun e w' => e = .returned (.string ⟨#[49, 56, 52, 52, 54, 55, 52, 52, 48, 55, 51, 55, 48, 57, 53, 53, 49, 54, 49, 54]⟩) ∧ Hid (Below z.heap.size z w') ∧ w'.cell? ⟨w1.heap.size, 0, none⟩ = some (.slice pa la.length ca) ∧ w'.cell? ⟨w3.heap.size, 0, none⟩ = some (.slice pb lb.length cb) ∧ w'.cell? ⟨w4.heap.size, 0, none⟩ = some (.slice pc lc.length cc)) := by
    intro W hW
    have ht := text_any _ lb' W ((ib.below hW.out).up hW.out.size) (by omega) (tabIs_below HTAB.out (bl_trans KW hW.out))
    rw [vb] at ht
    have e64 : (2 : Nat) ^ 64 = 18446744073709551616 := by decide
    rw [e64, txt64] at ht
    exact ht.mono fun e w' ⟨h1, h2⟩ => have h3 := bl_trans hW.out h2; ⟨h1, h3, post w' h3⟩
  have OF : Hid (∀ W, Hid (Below z.heap.size z W) → Calls Tryz.prog 18 #[.int .u64 1] W fun e w' => ∃ (po : Option Addr) (co lo : Nat), e = .returned (.agg #[.slice po lo co]) ∧ Hid (FNat w' W.heap.size (.agg #[.slice po lo co]) 1 ∧ lo ≤ 1) ∧ Hid (Below z.heap.size z w') ∧ w'.cell? ⟨w1.heap.size, 0, none⟩ = some (.slice pa la.length ca) ∧ w'.cell? ⟨w3.heap.size, 0, none⟩ = some (.slice pb lb.length cb) ∧ w'.cell? ⟨w4.heap.size, 0, none⟩ = some (.slice pc lc.length cc)) := by
    intro W hW
    refine (of_int 1 1 rfl W (by omega)).mono ?_
    rintro e w' ⟨v, rfl, hf, hb⟩
    obtain ⟨po, co, lo, rfl, _, hr, hv, _⟩ := hf.nat
    have h3 := bl_trans hW.out hb
    exact ⟨po, co, lo.length, rfl, ⟨hf, len_small hr hv (by decide)⟩, h3, post w' h3⟩
  have SAME2 : Hid (∀ (W : World) (B : Nat) (po : Option Addr) (co lo : Nat), Hid (FNat W B (.agg #[.slice po lo co]) 1 ∧ lo ≤ 1) → Hid (Below z.heap.size z W) → Calls Tryz.prog 11 #[.agg #[.slice pc lc.length cc], .agg #[.slice po lo co]] W fun e w' => e = .returned (.bool true) ∧ Hid (Below z.heap.size z w') ∧ w'.cell? ⟨w1.heap.size, 0, none⟩ = some (.slice pa la.length ca) ∧ w'.cell? ⟨w3.heap.size, 0, none⟩ = some (.slice pb lb.length cb) ∧ w'.cell? ⟨w4.heap.size, 0, none⟩ = some (.slice pc lc.length cc)) := by
    intro W B po co lo hf hW
    exact (FNat.same (fc.below hW.out) hf.out.1 (by omega) (by have := hf.out.2; omega)).mono fun e w' ⟨h1, h2⟩ => have h3 := bl_trans hW.out h2; ⟨h1, h3, post w' h3⟩
  have HKW := Lib.hid KW
  clear K4 K3 K1 KW fa fb fc hla post eb ib rb vb db ob hlb ec ic rc vc dc oc hlc' hlc fo S1 hz HB1 HB2 HB3 HB4 HB5 HB6 HB7 HB8 HFA HFB HFC HVA HRA HDA HVB hl2 hm1 hm2 HTAB
  go_region_held3 (fun w' => w'.cell? ⟨w1.heap.size, 0, none⟩ = some (.slice pa la.length ca) ∧ w'.cell? ⟨w3.heap.size, 0, none⟩ = some (.slice pb lb.length cb) ∧ w'.cell? ⟨w4.heap.size, 0, none⟩ = some (.slice pc lc.length cc)) (first | go_keep | exact ⟨by assumption, by assumption, by assumption⟩) (first | (go_at_call 11; (with_reducible refine SAME1.out.mono ?_); rintro e w' ⟨rfl, hbe, c1, c3, c4⟩) | (go_at_call 16; (with_reducible refine (TEXT.out _ (by assumption)).mono ?_); rintro e w' ⟨rfl, hbe, c1, c3, c4⟩) | (go_at_call 18; (with_reducible refine (OF.out _ (by assumption)).mono ?_); rintro e w' ⟨po, co, lo, rfl, hfo, hbe, c1, c3, c4⟩) | (go_at_call 11; (with_reducible refine (SAME2.out _ _ _ _ _ (by assumption) (by assumption)).mono ?_); rintro e w' ⟨rfl, hbe, c1, c3, c4⟩))
  go_wp2
  go_ret
  exact ⟨rfl, bl_trans HKW.out hbe.out⟩
end Go.Proofs.YtcahnkocfbcchaaGreatDoor

