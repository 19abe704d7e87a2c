/- The walk of the kit's ApartNats. -/
import Derived.Test.YtcahnkocfbcchaaGreatDoorNxf
import Derived.Test.YtcahnkocfbcchaaGreatDoorNxg

namespace Go.Proofs.YtcahnkocfbcchaaGreatDoor
open Go.RowKit Tnd

/-- a row of Nats, and the rows of their digits. -/
structure NR where
  r : D
  xs : List D
def nr0 : NR := ⟨⟨none, 0, 0⟩, []⟩
def gq (rs : List NR) (k : Nat) : NR := rs.getD k nr0
theorem drop_gq {rs : List NR} {k : Nat} (h : k < rs.length) : rs.drop k = gq rs k :: rs.drop (k + 1) := by
  unfold gq
  rw [List.getD_eq_getElem?_getD, List.getElem?_eq_getElem h]
  exact List.drop_eq_getElem_cons h
def putV (vs : Nat → List Value) (r : NR) : Nat → List Value := natsV (updV vs 7 (vs 7 ++ [r.r.val])) r.xs
def putsV (vs : Nat → List Value) (rs : List NR) : Nat → List Value := rs.foldl putV vs
theorem putV_at (vs : Nat → List Value) (r : NR) : putV vs r 0 = vs 0 ++ r.xs.map D.val ∧ putV vs r 7 = vs 7 ++ [r.r.val] ∧ ∀ j, j ≠ 0 → j ≠ 7 → putV vs r j = vs j := by
  obtain ⟨a, f⟩ := natsV_at r.xs (updV vs 7 (vs 7 ++ [r.r.val]))
  unfold putV
  refine ⟨?_, ?_, fun j h1 h2 => ?_⟩
  · rw [a, updV_ne _ _ (by decide)]
  · rw [f 7 (by decide), updV_same]
  · rw [f j h1, updV_ne _ _ h2]
theorem putsV_at : ∀ (rs : List NR) (vs : Nat → List Value), putsV vs rs 0 = vs 0 ++ (rs.flatMap NR.xs).map D.val ∧ putsV vs rs 7 = vs 7 ++ rs.map (fun r => r.r.val) ∧ ∀ j, j ≠ 0 → j ≠ 7 → putsV vs rs j = vs j
  | [], vs => by simp [putsV]
  | r :: rs, vs => by
    obtain ⟨a, b, g⟩ := putsV_at rs (putV vs r)
    obtain ⟨a', b', g'⟩ := putV_at vs r
    have e : putsV vs (r :: rs) = putsV (putV vs r) rs := rfl
    rw [e, a, b, a', b']
    refine ⟨by simp, by simp, fun j h1 h2 => by rw [g j h1 h2, g' j h1 h2]⟩
theorem slD_of_row {w : World} {Bb : Nat} {T : TypeId} {q : Option Addr} {m cq : Nat} {ds : List D} (h : w.ownsRow (Bb + 1) T 1 (.slice q m cq) (ds.map D.val).length (ds.map D.val)) (hd : ∀ b, InD ds b → b < Bb) : SlD w q ds ∧ m = ds.length ∧ ∀ b o, q = some ⟨b, o, none⟩ → Bb < b := by
  have h' := h
  rcases h.2 with ⟨h1, h2⟩ | ⟨g, cap, cur, h1, hg, hh, _⟩
  · simp only [List.length_map] at h2
    have : ds = [] := List.eq_nil_of_length_eq_zero h2
    subst this
    simp only [Value.slice.injEq] at h1
    exact ⟨.inl rfl, by simp [h1.2.1], fun b o e => by rw [h1.1] at e; cases e⟩
  · simp only [Value.slice.injEq, List.length_map] at h1
    obtain ⟨rfl, rfl, rfl⟩ := h1
    refine ⟨.inr ⟨g, 0, rfl, fun s => by have := hd g s; omega, (Array.getElem?_eq_some_iff.1 hh).1, fun k hk => ?_⟩, rfl, fun b o e => by cases e; omega⟩
    have hk2 : k < (ds.map D.val).length * 1 := by rw [List.length_map]; omega
    rw [List.length_map] at h'
    rw [Nat.zero_add, h'.cellAt k (by omega), List.getElem?_map]
    unfold dg
    rw [List.getD_eq_getElem?_getD, List.getElem?_eq_getElem hk]; rfl
/-- rows of Nats all of whose rows lie apart. -/
structure ApOk (w : World) (rs : List NR) (DS : Nat → List D) : Prop where
  vals : ∀ j, j < 20 → putsV (fun _ => []) rs j = (DS j).map D.val
  r0 : ∀ k, k < (DS 0).length → Room w 1 (dg (DS 0) k)
  r7 : ∀ k, k < (DS 7).length → Room w 1 (dg (DS 7) k)
  far : ∀ j, Far (DS j)
  most : ∀ j, (DS j).length ≤ 130
  few : ∀ j k, k < (DS j).length → (dg (DS j) k).n ≤ 100000
  dis : ∀ i j b, i ≠ j → InD (DS i) b → ¬ InD (DS j) b
  lt : ∀ j b, InD (DS j) b → b < w.heap.size
  rows : ∀ r ∈ rs, r.r.n = r.xs.length ∧ SlD w r.r.ad r.xs
theorem ApOk.nil {w : World} {rs : List NR} {DS : Nat → List D} (h : ApOk w rs DS) {j : Nat} (hj : j < 20) (h0 : j ≠ 0) (h7 : j ≠ 7) : DS j = [] := by
  have := h.vals j hj
  rw [(putsV_at rs _).2.2 j h0 h7] at this
  exact List.map_eq_nil_iff.1 this.symm
/-- the list of rows: its cells. -/
def SlQ (w : World) (q : Option Addr) (rs : List NR) : Prop := ∀ k, k < rs.length → ∃ b off, q = some ⟨b, off, none⟩ ∧ w.cell? ⟨b, off + k, none⟩ = some (gq rs k).r.val
theorem gq_mem {rs : List NR} {k : Nat} (h : k < rs.length) : gq rs k ∈ rs := by
  unfold gq
  rw [List.getD_eq_getElem?_getD, List.getElem?_eq_getElem h]
  exact List.getElem_mem h
/-- what is left to put fits. -/
theorem put_fits {U : Nat → List Value} {rs : List NR} {k : Nat} {w : World} {DS : Nat → List D} (h : ApOk w rs DS) (hk : k < rs.length) (hU : putsV U (rs.drop k) = putsV (fun _ => []) rs) :
    (U 7).length ≤ 130 ∧ (U 0).length + (gq rs k).xs.length ≤ 130 := by
  obtain ⟨a, b, _⟩ := putsV_at (rs.drop k) U
  rw [hU] at a b
  have l0 := congrArg List.length ((h.vals 0 (by decide)).symm.trans a)
  have l7 := congrArg List.length ((h.vals 7 (by decide)).symm.trans b)
  rw [drop_gq hk] at l0 l7
  simp only [List.length_map, List.length_append, List.flatMap_cons] at l0 l7
  have m0 := h.most 0
  have m7 := h.most 7
  refine ⟨by omega, by omega⟩
set_option maxHeartbeats 3200000 in
set_option maxRecDepth 100000 in
theorem apartNats_any (q : Option Addr) (cq m : Nat) (rs : List NR) (DS : Nat → List D) (w : World) (hm : m = rs.length) (hq : SlQ w q rs) (h : ApOk w rs DS) (hm1 : m ≤ 100) :
    Calls Tryz.prog 21 #[.slice q m cq] w fun e w' => e = .returned (.bool true) ∧ But (fun b => ∃ j, j < 20 ∧ InD (DS j) b) w w' := by
  have HM := Lib.hid hm
  have HQ := Lib.hid hq
  have H := Lib.hid h
  have hmI : (m : Int) ≤ 100 := by omega
  clear hm hq h
  go_enter Tryz.func21, Tryz.ntmps21
  go_wp2
  go_loopw [4] (fun kv wr => ∃ (k : Nat), k ≤ m ∧ kv = .int .i64 (k : Nat) ∧ Hid (∃ s U, BagV wr w.heap.size w.heap.size s U ∧ putsV U (rs.drop k) = putsV (fun _ => []) rs) ∧ Hid (Below w.heap.size w wr)) (fun kv _ => m - (intOf kv).toNat)
  case atStart =>
    refine ⟨0, Nat.zero_le _, rfl, ⟨fun _ => .slice none 0 0, fun _ => [], ⟨fun j hj => ?_, fun j hj => ?_, fun j hj => World.ownsRow_nil _ _ _ _, Nat.le_refl _, fun _ _ _ => rfl⟩, rfl⟩, (Below.refl _ _).alloc (Nat.le_refl _) _⟩
    · rw [World.cell?_alloc_at _ _ _ _ rfl]
      match j, hj with
      | 0, _ => rfl
      | 1, _ => rfl
      | 2, _ => rfl
      | 3, _ => rfl
      | 4, _ => rfl
      | 5, _ => rfl
      | 6, _ => rfl
      | 7, _ => rfl
      | 8, _ => rfl
      | 9, _ => rfl
      | 10, _ => rfl
      | 11, _ => rfl
      | 12, _ => rfl
      | 13, _ => rfl
      | 14, _ => rfl
      | 15, _ => rfl
      | 16, _ => rfl
      | 17, _ => rfl
      | 18, _ => rfl
      | 19, _ => rfl
      | j + 20, h => exact absurd h (by omega)
    · exact World.frozen?_alloc_at _ _ _ _ rfl
  case round =>
    obtain ⟨k, hk, rfl, HG, HB⟩ := hrel
    rename World => wr
    by_cases hkm : k < m
    · have hkI : (k : Int) < m := by omega
      have hkd : k < rs.length := by have := HM.out; omega
      obtain ⟨bq, oq, rfl, hcq⟩ := HQ.out k hkd
      have hcw := fkeep_cell HB.out hcq
      obtain ⟨s, U, hg, hU⟩ := HG.out
      obtain ⟨f7, f0⟩ := put_fits H.out hkd hU
      obtain ⟨hn, hsl⟩ := H.out.rows _ (gq_mem hkd)
      rw [drop_gq hkd] at hU
      obtain ⟨r, hr⟩ : ∃ r, r = gq rs k := ⟨_, rfl⟩
      rw [← hr] at hcw f0 hn hsl hU
      obtain ⟨⟨xp, xn, xc⟩, xs⟩ := r
      obtain ⟨ad, had⟩ : ∃ a, a = D.ad ⟨xp, xn, xc⟩ := ⟨_, rfl⟩
      simp only [D.val] at hcw
      simp only at f0 hn hsl
      rw [← had] at hcw hsl
      have HP := Lib.hid (putNats_v w.heap.size s U ad xn xc xs w wr hn hg hsl HB.out (by omega) (by omega))
      have HU : Hid (putsV (natsV (updV U 7 (U 7 ++ [.slice ad xn xc])) xs) (rs.drop (k + 1)) = putsV (fun _ => []) rs) := by rw [had]; exact hU
      have HKM := Lib.hid hkm
      clear hcq hg hU f7 f0 hn hsl hr hkd hkm HG had
      go_wp2_with (go_at_call 48; refine HP.out.mono ?_; rintro e w6 ⟨rfl, ⟨s6, hb6⟩, hbl6, _⟩; have HB6 := Lib.hid hb6; have HBL6 := Lib.hid (HB.out.trans hbl6); clear hb6 hbl6)
      go_roundw
      case rel => exact ⟨k + 1, by have := HKM.out; omega, by go_num, ⟨s6, _, HB6.out, HU.out⟩, HBL6.out⟩
      case measure => have := HKM.out; simp [intOf]; omega
    · have hkI : (m : Int) ≤ k := by omega
      obtain rfl : k = m := by omega
      obtain ⟨s, U, hg, hU⟩ := HG.out
      rw [List.drop_eq_nil_of_le (by have := HM.out; omega)] at hU
      have hU2 : U = putsV (fun _ => []) rs := hU
      have hfm : ∀ j, j < 20 → ∃ x : KL, s j = x.val ∧ x.ds = DS j ∧ SlD wr x.q x.ds ∧ x.m = x.ds.length ∧ ∀ b o, x.q = some ⟨b, o, none⟩ → w.heap.size < b := fun j hj => by
        have hrow := hg.row j hj
        rw [hU2, H.out.vals j hj] at hrow
        obtain ⟨q, n, c, e⟩ : ∃ q n c, s j = .slice q n c := by
          rcases hrow.2 with ⟨h, _⟩ | ⟨g, cap, cur, h, _⟩
          · exact ⟨_, _, _, h⟩
          · exact ⟨_, _, _, h⟩
        rw [e] at hrow
        obtain ⟨h1, h2, h3⟩ := slD_of_row hrow (H.out.lt j)
        exact ⟨⟨q, n, c, DS j⟩, e, rfl, h1, h2, h3⟩
      obtain ⟨K, hK⟩ : ∃ K : Nat → KL, ∀ j, (j < 20 → s j = (K j).val ∧ (K j).ds = DS j ∧ SlD wr (K j).q (K j).ds ∧ (K j).m = (K j).ds.length ∧ ∀ b o, (K j).q = some ⟨b, o, none⟩ → w.heap.size < b) ∧ (¬ j < 20 → K j = kl0) := by
        refine ⟨fun j => if hj : j < 20 then Classical.choose (hfm j hj) else kl0, fun j => ⟨fun hj => ?_, fun hj => dif_neg hj⟩⟩
        simp only [dif_pos hj]
        exact Classical.choose_spec (hfm j hj)
      have hroom : ∀ {j sz : Nat}, j < 20 → (∀ t, t < (DS j).length → Room w sz (dg (DS j) t)) → KOk wr sz (K j) := fun {j sz} hj hr => by
        obtain ⟨_, e2, e3, e4, _⟩ := (hK j).1 hj
        refine ⟨e4, e3, fun t ht => ?_, by rw [e2]; exact H.out.far j, by rw [e4, e2]; exact H.out.most j, fun t ht => ?_⟩
        · rw [e4, e2] at ht
          rw [e2]
          exact (hr t ht).at HB.out.size fun b e => HB.out.block b ((hr t ht).lt b e)
        · rw [e4, e2] at ht
          rw [e2]; exact H.out.few j t ht
      have hin : ∀ j b, InD (K j).ds b → j < 20 ∧ InD (DS j) b := fun j b hb => by
        by_cases hj : j < 20
        · refine ⟨hj, ?_⟩
          have e := ((hK j).1 hj).2.1
          rw [e] at hb; exact hb
        · rw [(hK j).2 hj] at hb
          obtain ⟨t, ht, _⟩ := hb
          simp [kl0] at ht
      have hbag : Bag2 wr w.heap.size K := by
        refine ⟨fun j hj h0 h7 => ?_, fun j hj => ?_, hroom (by decide) H.out.r0, hroom (by decide) H.out.r7, fun i j b hne h1 h2 => H.out.dis i j b hne (hin i b h1).2 (hin j b h2).2, fun i j b o e h2 => ?_, fun j h2 => ?_⟩
        · obtain ⟨e1, e2, _, e4, _⟩ := (hK j).1 hj
          have hd := H.out.nil hj h0 h7
          rw [hd] at e2
          have e5 : (K j).m = 0 := by rw [e4, e2]; rfl
          have e6 := hg.nil j hj (by rw [hU2, H.out.vals j hj, hd]; rfl)
          rw [e1] at e6
          obtain ⟨a1, a2, a3, a4, a5⟩ : ∃ a1 a2 a3 a4, K j = ⟨a1, a2, a3, a4⟩ := ⟨_, _, _, _, rfl⟩
          rw [a5] at e6 e2 ⊢
          simp only [KL.val, Value.slice.injEq] at e6
          obtain ⟨rfl, rfl, rfl⟩ := e6
          simp only at e2
          rw [e2]; rfl
        · rw [hg.cell j hj, ((hK j).1 hj).1]
        · by_cases hi : i < 20
          · have := ((hK i).1 hi).2.2.2.2 b o e
            have := H.out.lt j b (hin j b h2).2
            omega
          · rw [(hK i).2 hi] at e; cases e
        · have := H.out.lt j _ (hin j _ h2).2
          omega
      have HA := Lib.hid (apart_v w.heap.size K wr hbag)
      have HIN := Lib.hid hin
      clear hbag hroom hfm hg hU hU2 hin hK
      go_wp2_with (go_at_call 49; refine HA.out.mono ?_; rintro e w6 ⟨rfl, hb6⟩; have HB6 := Lib.hid hb6; clear hb6)
      go_ret
      exact ⟨rfl, (But.ofBelow HB.out _).trans (HB6.out.mono fun b ⟨j, _, h2⟩ => ⟨j, (HIN.out j b h2).1, (HIN.out j b h2).2⟩)⟩
end Go.Proofs.YtcahnkocfbcchaaGreatDoor
