/- PartsOf's walk, but for what ApartRangeRows tells (ApartRowsOk: a premise here). -/
import Derived.Test.YtildfjlaieaadaaGreatUd

namespace Go.Proofs.YtildfjlaieaadaaGreat
open Go.RowKit Tnr

/-- what parts.Of tells, and the document's: rows of the call's own; the error, or the classes. -/
def TellsOf (S : List (List R)) (w : World) (e : Ending) (w' : World) : Prop :=
  ∃ q n cq vs, ∃ ev : Int, ∃ L, e = .returned (.tuple #[.slice q n cq, .int .i64 ev]) ∧ n = L.length ∧ n ≤ 60 ∧ (n = 0 → q = none ∧ cq = 0) ∧ RowsIn w' w.heap.size (.slice q n cq) vs L ∧ Below w.heap.size w w' ∧ (∀ k, k < L.length → (gl L k).length ≤ 4000) ∧ ((ev = 3 ∧ L = [] ∧ More S) ∨ (ev = 0 ∧ Parts S L))
theorem tells_one {S : List (List R)} {a b : Int} {L M : List (List R)} (h : (a = 3 ∧ L = [] ∧ More S) ∨ (a = 0 ∧ Parts S L)) (hl : L.length ≤ 60) (k : (b = 3 ∧ M = [] ∧ More S) ∨ (b = 0 ∧ Parts S M)) (hm : M.length ≤ 60) : a = b ∧ L = M := by
  rcases h with ⟨h1, h2, h3⟩ | ⟨h1, h2⟩ <;> rcases k with ⟨k1, k2, k3⟩ | ⟨k1, k2⟩
  · exact ⟨h1.trans k1.symm, h2.trans k2.symm⟩
  · have := h3.not k2; omega
  · have := k3.not h2; omega
  · exact ⟨h1.trans k1.symm, h2.one k2⟩
theorem tellsOf_any (p : Option Addr) (c m : Nat) (xs : List SV) (w : World) (hm : m = xs.length) (hc : m ≤ c) (hx : SlS w p xs) (hl : m ≤ 150) (hf : (flat xs).length ≤ 150) :
    Calls Tryz.prog 4 #[.slice p m c] w (TellsOf (rowsV xs) w) := by
  refine (partsOf_any p c m xs w hm hc hx (by omega) (by omega)).mono ?_
  rintro e w' ⟨hb, ⟨rfl, h⟩ | ⟨po, nn, co, ys, vs, rfl, h1, _, h3, h4, _, h6, h7⟩⟩
  · exact ⟨none, 0, 0, [], 3, [], rfl, rfl, by omega, fun _ => ⟨rfl, rfl⟩, RowsIn.nil _ _, hb, fun k hk => absurd hk (Nat.not_lt_zero _), .inl ⟨rfl, rfl, h⟩⟩
  · refine ⟨po, nn, co, vs, 0, rowsV ys, rfl, by rw [rowsV_length]; exact h1, h3, fun h0 => by (obtain ⟨f, _, hL⟩ := h4; have := hL.pos; rw [rowsV_length] at this; omega), h7, hb, fun k hk => ?_, .inr ⟨rfl, h4⟩⟩
    rw [rowsV_length] at hk
    rw [rowsV_gl hk]
    have := flat_one_le hk
    omega
theorem tellsRef_any (p : Option Addr) (c m : Nat) (xs : List SV) (w : World) (hm : m = xs.length) (hx : SlS w p xs) (hl : m ≤ 150) (hf : (flat xs).length ≤ 150) :
    Calls Tryz.prog 13 #[.slice p m c] w (TellsOf (rowsV xs) w) := by
  refine (refOf_any p c m xs w hm hx (by omega) (by omega)).mono ?_
  rintro e w' ⟨hb, ⟨rfl, h⟩ | ⟨q, cq, n, vs, O, rfl, h1, h2, h3, h4, h5⟩⟩
  · exact ⟨none, 0, 0, [], 3, [], rfl, rfl, by omega, fun _ => ⟨rfl, rfl⟩, RowsIn.nil _ _, hb, fun k hk => absurd hk (Nat.not_lt_zero _), .inl ⟨rfl, rfl, h⟩⟩
  · exact ⟨q, n, cq, vs, 0, O, rfl, h1, h2, fun h0 => by (obtain ⟨f, _, hL⟩ := h3; have := hL.pos; omega), h4, hb, fun k hk => by have := h5 k hk; omega, .inr ⟨rfl, h3⟩⟩

/-- what ApartRangeRows tells of two rows of rows, one behind the other. -/
def ApartRowsOk : Prop := ∀ (qa qc : Option Addr) (n ca cc : Nat) (va vc : List Value) (A : List (List R)) (Ba Bc : Nat) (W : World), RowsIn W Ba (.slice qa n ca) va A → RowsIn W Bc (.slice qc n cc) vc A → n = A.length → n ≤ 60 → (n = 0 → (qa = none ∧ ca = 0) ∧ qc = none ∧ cc = 0) → (∀ k, k < A.length → (gl A k).length ≤ 4000) →
  (∀ b, (Value.slice qa n ca).ownBlock = some b → b < Bc) → (∀ k, k < A.length → ∀ b, (gv va k).ownBlock = some b → b < Bc) → Ba ≤ Bc → Bc ≤ W.heap.size →
  Calls Tryz.prog 16 #[.slice (some ⟨W.heap.size, 0, none⟩) 2 2] (W.alloc (.cells #[.slice qa n ca, .slice qc n cc] 22)) fun e w' => e = .returned (.bool true) ∧ Below Ba W w'

theorem lent_rowsVO {w : World} {B n : Nat} {xs ys : List SV} (hn : n = ys.length) (hx : n = xs.length) (h : ∀ i, i < n → LentOf w B (gs xs i) (gs ys i)) : rowsV ys = rowsV xs := by
  apply List.ext_getElem
  · rw [rowsV_length, rowsV_length]; omega
  · intro i h1 h2
    rw [rowsV_length] at h1 h2
    have h3 := (h i (by omega)).1
    rw [gs_get h1, gs_get h2] at h3
    simp [rowsV, h3]

set_option maxHeartbeats 6400000 in
set_option maxRecDepth 100000 in
theorem of_true (HAR : ApartRowsOk) (p : Option Addr) (c : Nat) (xs : List SV) (w : World) (hx : SlS w p xs) (hnil : ∀ i, i < xs.length → (gs xs i).1 = none → (gs xs i).2.1 = 0) (hl : xs.length ≤ 1000000000000000) (hle : ∀ x ∈ xs, x.2.2.length ≤ 4000000000000000) :
    Calls Tryz.prog 5 #[.slice p xs.length c] w fun e w' => e = .returned (.bool true) ∧ Below w.heap.size w w' := by
  have HARH := Lib.hid HAR
  have HX := Lib.hid hx
  have HNIL := Lib.hid hnil
  have HR := Lib.hid (rangeRowsOf_bd p c xs.length xs w rfl hx hl hle)
  obtain ⟨m, hm⟩ : ∃ m, m = xs.length := ⟨_, rfl⟩
  rw [← hm] at HR HNIL ⊢
  have HM := Lib.hid hm
  have hmI : (m : Int) ≤ 1000000000000000 := by omega
  clear hx hl hle hm hnil HAR
  go_enter Tryz.func5, Tryz.ntmps5
  go_wp2_with fail
  refine HR.out.mono ?_
  clear HR
  rintro e w' ⟨q, rfl, hq4, hq, rfl⟩
  have hqI : (q : Int) ≤ 400 := by omega
  have HQ := Lib.hid hq
  clear hq
  by_cases hg : 150 < q
  · have HA := Lib.hid (awake_any w)
    have hgI : 150 < (q : Int) := by omega
    go_wp2_with fail
    refine HA.out.mono ?_
    rintro e w1 ⟨rfl, hb⟩
    have HB := Lib.hid hb
    clear hb
    go_wp2
    go_ret
    exact ⟨rfl, HB.out⟩
  · have hgI : (q : Int) ≤ 150 := by omega
    have HQ2 := Lib.hid (HQ.out (by omega))
    have HMX : Hid (m ≤ 150) := by have := HQ2.out; have := HM.out; show m ≤ 150; omega
    have HFX : Hid ((flat xs).length ≤ 150) := by have := HQ2.out; show _ ≤ _; omega
    have HL1 := Lib.hid (lentRows_any p c m xs w HM.out HX.out (by have := HFX.out; omega) (by have := HMX.out; omega) HNIL.out)
    clear hg hq4
    go_wp2_with fail
    refine HL1.out.mono ?_
    clear HL1
    rintro e w1 ⟨pq, dq, ys, rfl, hny, hoy, hly, hb1⟩
    have HNY := Lib.hid hny
    have HOY := Lib.hid hoy
    have HLY := Lib.hid hly
    have HB1 := Lib.hid hb1
    have HSY := Lib.hid (lentRows_sls hny HM.out hoy hly)
    have HRV := Lib.hid (lent_rowsVO hny HM.out hly)
    have HDQ : Hid (m ≤ dq) := by
      rcases hoy.2 with ⟨h, h0⟩ | ⟨g, cap, cur, e, _, _, hc, _⟩
      · show m ≤ dq; omega
      · simp only [Value.slice.injEq] at e
        show m ≤ dq; omega
    have HFY : Hid ((flat ys).length ≤ 150) := by show _ ≤ _; rw [HSY.out.2]; exact HFX.out
    have HO1 : Hid (Calls Tryz.prog 4 #[.slice pq m dq] w1 (TellsOf (rowsV xs) w1)) := by
      have h := tellsOf_any pq dq m ys w1 HNY.out HDQ.out HSY.out.1 HMX.out HFY.out
      rw [HRV.out] at h; exact h
    clear hny hoy hly hb1
    go_wp2_with fail
    refine HO1.out.mono ?_
    clear HO1
    rintro e w2 ⟨qa, na, ca, va, ea, A, rfl, hna, hna60, hna0, hra, hba, hsa, hta⟩
    have HNA := Lib.hid hna
    have HNA60 := Lib.hid hna60
    have HRA := Lib.hid hra
    have HNA0 := Lib.hid hna0
    have HBA := Lib.hid hba
    have HSA := Lib.hid hsa
    have HTA := Lib.hid hta
    have HB2 := Lib.hid (bl_trans HB1.out hba)
    have HO2 := Lib.hid (tellsRef_any p c m xs w2 HM.out (HX.out.below HB2.out) HMX.out HFX.out)
    clear hna hna60 hna0 hra hba hsa hta
    go_wp2_with fail
    refine HO2.out.mono ?_
    clear HO2
    rintro e w3 ⟨qb, nb, cb, vb, eb, O, rfl, hnb, hnb60, _, hrb, hbb, hsb, htb⟩
    obtain ⟨he, hL⟩ := tells_one HTA.out (by have := HNA.out; have := HNA60.out; omega) htb (by omega)
    subst he
    subst hL
    obtain rfl : na = nb := by have := HNA.out; omega
    have HRB := Lib.hid hrb
    have HBB := Lib.hid hbb
    have HB3 := Lib.hid (bl_trans HB2.out hbb)
    have HRA3 := Lib.hid (HRA.out.below hbb)
    have HO3 : Hid (Calls Tryz.prog 4 #[.slice pq m dq] w3 (TellsOf (rowsV xs) w3)) := by
      have h := tellsOf_any pq dq m ys w3 HNY.out HDQ.out (HSY.out.1.below (bl_trans HBA.out HBB.out)) HMX.out HFY.out
      rw [HRV.out] at h; exact h
    clear hnb hnb60 hrb hbb hsb htb
    go_wp2_with fail
    refine HO3.out.mono ?_
    clear HO3
    rintro e w4 ⟨qc, nc, cc, vc, ec, C, rfl, hnc, hnc60, hnc0, hrc, hbc, hsc, htc⟩
    obtain ⟨he, hL⟩ := tells_one HTA.out (by have := HNA.out; have := HNA60.out; omega) htc (by omega)
    subst he
    subst hL
    obtain rfl : na = nc := by have := HNA.out; omega
    have HRC := Lib.hid hrc
    have HNC0 : Hid (na = 0 → (qa = none ∧ ca = 0) ∧ qc = none ∧ cc = 0) := fun h0 => ⟨HNA0.out h0, hnc0 h0⟩
    have HB4 := Lib.hid (bl_trans HB3.out hbc)
    have HZ34 : Hid (w3.heap.size ≤ w4.heap.size) := hbc.size
    have HRA4 := Lib.hid (HRA3.out.below hbc)
    have HRB4 := Lib.hid (HRB.out.below hbc)
    have HB14 : Hid (Below w1.heap.size w1 w4) := bl_trans (bl_trans HBA.out HBB.out) hbc
    have HLO : Hid ((∀ b, (Value.slice qa na ca).ownBlock = some b → b < w3.heap.size) ∧ (∀ k, k < A.length → ∀ b, (gv va k).ownBlock = some b → b < w3.heap.size)) := ⟨fun b e => (HRA3.out.out.lt b e).2, fun k hk b e => (World.ownsRow.lt (HRA3.out.own k hk) b e).2⟩
    have HS1 : Hid (∃ xa xb : List SV, rowsV xa = A ∧ SlS w4 qa xa ∧ rowsV xb = A ∧ SlS w4 qb xb) := by
      obtain ⟨xa, h1, h2⟩ := HRA4.out.sls
      obtain ⟨xb, h3, h4⟩ := HRB4.out.sls
      exact ⟨xa, xb, h1, h2, h3, h4⟩
    have HE1 : Hid (Calls Tryz.prog 14 #[.slice qa na ca, .slice qb na cb] w4 fun e w' => e = .returned (.bool true) ∧ Below w4.heap.size w4 w') := by
      obtain ⟨xa, xb, h1, h2, h3, h4⟩ := HS1.out
      have l1 : na = xa.length := by rw [← rowsV_length xa, h1]; exact HNA.out
      have l2 : na = xb.length := by rw [← rowsV_length xb, h3]; exact HNA.out
      refine sameRows_any qa qb ca cb na xa xb w4 l1 l2 h2 h4 (fun i hi => ?_) (fun i hi => ?_) (by have := HNA60.out; omega)
      · rw [← rowsV_gl (by omega), ← rowsV_gl (by omega), h1, h3]
      · have := HSA.out i (by have := HNA.out; omega)
        rw [← rowsV_gl (by omega), h1]; omega
    clear hnc hnc60 hnc0 hrc hbc hsc htc
    go_wp2_with fail
    refine HE1.out.mono ?_
    clear HE1
    rintro e w5 ⟨rfl, hb5⟩
    have HB5 := Lib.hid hb5
    have HB15 := Lib.hid (bl_trans HB14.out hb5)
    have HK1 := Lib.hid (keptRows_any p pq c dq m w.heap.size xs ys w5 HM.out HNY.out (HX.out.below (bl_trans HB4.out hb5)) (by have := HFX.out; omega) (by have := HMX.out; omega) (rows_below HOY.out HB15.out) (fun i hi => (HLY.out i hi).below HB15.out))
    clear hb5
    go_wp2_with fail
    refine HK1.out.mono ?_
    clear HK1
    rintro e w6 ⟨rfl, hb6⟩
    have HB46 := Lib.hid (bl_trans HB5.out hb6)
    have HB16 := Lib.hid (bl_trans HB15.out hb6)
    have HAP := Lib.hid (HARH.out qa qc na ca cc va vc A w1.heap.size w3.heap.size w6 (HRA4.out.below HB46.out) (HRC.out.below HB46.out) HNA.out HNA60.out HNC0.out HSA.out HLO.out.1 HLO.out.2 (bl_trans HBA.out HBB.out).size (Nat.le_trans HZ34.out HB46.out.size))
    clear hb6
    go_wp2_with fail
    refine HAP.out.mono ?_
    clear HAP
    rintro e w7 ⟨rfl, hb7⟩
    have HB17 : Hid (Below w1.heap.size w1 w7) := HB16.out.trans hb7
    have HK2 := Lib.hid (keptRows_any p pq c dq m w.heap.size xs ys w7 HM.out HNY.out (HX.out.below (bl_trans HB1.out HB17.out)) (by have := HFX.out; omega) (by have := HMX.out; omega) (rows_below HOY.out HB17.out) (fun i hi => (HLY.out i hi).below HB17.out))
    clear hb7
    go_wp2_with fail
    refine HK2.out.mono ?_
    clear HK2
    rintro e w8 ⟨rfl, hb8⟩
    have HB18 := Lib.hid (bl_trans HB17.out hb8)
    have HAW := Lib.hid (awake_any w8)
    clear hb8
    go_wp2_with fail
    refine HAW.out.mono ?_
    clear HAW
    rintro e w9 ⟨rfl, hb9⟩
    have HB9 := Lib.hid (bl_trans HB1.out (bl_trans HB18.out hb9))
    clear hb9
    go_wp2
    go_ret
    exact ⟨rfl, HB9.out⟩
end Go.Proofs.YtildfjlaieaadaaGreat
