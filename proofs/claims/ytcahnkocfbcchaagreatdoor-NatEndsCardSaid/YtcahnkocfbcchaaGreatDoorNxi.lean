/- The walk of the kit's ApartNats. -/
/- NatPowers: its own walk. -/
import Derived.Test.YtcahnkocfbcchaaGreatDoorNxg
import Derived.Test.YtcahnkocfbcchaaGreatDoorNxa
import Derived.Test.YtcahnkocfbcchaaGreatDoorWy

namespace Go.Proofs.YtcahnkocfbcchaaGreatDoor
open Go.RowKit Tnd

/-- a row of Nats, and the rows of their digits. -/
structure NR where
  r : D
  xs : List D
def nr0 : NR := ⟨⟨none, 0, 0⟩, []⟩
def gq (rs : List NR) (k : Nat) : NR := rs.getD k nr0
theorem drop_gq {rs : List NR} {k : Nat} (h : k < rs.length) : rs.drop k = gq rs k :: rs.drop (k + 1) := by
  unfold gq
  rw [List.getD_eq_getElem?_getD, List.getElem?_eq_getElem h]
  exact List.drop_eq_getElem_cons h
def putV (vs : Nat → List Value) (r : NR) : Nat → List Value := natsV (updV vs 7 (vs 7 ++ [r.r.val])) r.xs
def putsV (vs : Nat → List Value) (rs : List NR) : Nat → List Value := rs.foldl putV vs
theorem putV_at (vs : Nat → List Value) (r : NR) : putV vs r 0 = vs 0 ++ r.xs.map D.val ∧ putV vs r 7 = vs 7 ++ [r.r.val] ∧ ∀ j, j ≠ 0 → j ≠ 7 → putV vs r j = vs j := by
  obtain ⟨a, f⟩ := natsV_at r.xs (updV vs 7 (vs 7 ++ [r.r.val]))
  unfold putV
  refine ⟨?_, ?_, fun j h1 h2 => ?_⟩
  · rw [a, updV_ne _ _ (by decide)]
  · rw [f 7 (by decide), updV_same]
  · rw [f j h1, updV_ne _ _ h2]
theorem putsV_at : ∀ (rs : List NR) (vs : Nat → List Value), putsV vs rs 0 = vs 0 ++ (rs.flatMap NR.xs).map D.val ∧ putsV vs rs 7 = vs 7 ++ rs.map (fun r => r.r.val) ∧ ∀ j, j ≠ 0 → j ≠ 7 → putsV vs rs j = vs j
  | [], vs => by simp [putsV]
  | r :: rs, vs => by
    obtain ⟨a, b, g⟩ := putsV_at rs (putV vs r)
    obtain ⟨a', b', g'⟩ := putV_at vs r
    have e : putsV vs (r :: rs) = putsV (putV vs r) rs := rfl
    rw [e, a, b, a', b']
    refine ⟨by simp, by simp, fun j h1 h2 => by rw [g j h1 h2, g' j h1 h2]⟩
theorem slD_of_row {w : World} {Bb : Nat} {T : TypeId} {q : Option Addr} {m cq : Nat} {ds : List D} (h : w.ownsRow (Bb + 1) T 1 (.slice q m cq) (ds.map D.val).length (ds.map D.val)) (hd : ∀ b, InD ds b → b < Bb) : SlD w q ds ∧ m = ds.length ∧ ∀ b o, q = some ⟨b, o, none⟩ → Bb < b := by
  have h' := h
  rcases h.2 with ⟨h1, h2⟩ | ⟨g, cap, cur, h1, hg, hh, _⟩
  · simp only [List.length_map] at h2
    have : ds = [] := List.eq_nil_of_length_eq_zero h2
    subst this
    simp only [Value.slice.injEq] at h1
    exact ⟨.inl rfl, by simp [h1.2.1], fun b o e => by rw [h1.1] at e; cases e⟩
  · simp only [Value.slice.injEq, List.length_map] at h1
    obtain ⟨rfl, rfl, rfl⟩ := h1
    refine ⟨.inr ⟨g, 0, rfl, fun s => by have := hd g s; omega, (Array.getElem?_eq_some_iff.1 hh).1, fun k hk => ?_⟩, rfl, fun b o e => by cases e; omega⟩
    have hk2 : k < (ds.map D.val).length * 1 := by rw [List.length_map]; omega
    rw [List.length_map] at h'
    rw [Nat.zero_add, h'.cellAt k (by omega), List.getElem?_map]
    unfold dg
    rw [List.getD_eq_getElem?_getD, List.getElem?_eq_getElem hk]; rfl
/-- rows of Nats all of whose rows lie apart. -/
structure ApOk (w : World) (rs : List NR) (DS : Nat → List D) : Prop where
  vals : ∀ j, j < 20 → putsV (fun _ => []) rs j = (DS j).map D.val
  r0 : ∀ k, k < (DS 0).length → Room w 1 (dg (DS 0) k)
  r7 : ∀ k, k < (DS 7).length → Room w 1 (dg (DS 7) k)
  far : ∀ j, Far (DS j)
  most : ∀ j, (DS j).length ≤ 130
  few : ∀ j k, k < (DS j).length → (dg (DS j) k).n ≤ 100000
  dis : ∀ i j b, i ≠ j → InD (DS i) b → ¬ InD (DS j) b
  lt : ∀ j b, InD (DS j) b → b < w.heap.size
  rows : ∀ r ∈ rs, r.r.n = r.xs.length ∧ SlD w r.r.ad r.xs
theorem ApOk.nil {w : World} {rs : List NR} {DS : Nat → List D} (h : ApOk w rs DS) {j : Nat} (hj : j < 20) (h0 : j ≠ 0) (h7 : j ≠ 7) : DS j = [] := by
  have := h.vals j hj
  rw [(putsV_at rs _).2.2 j h0 h7] at this
  exact List.map_eq_nil_iff.1 this.symm
/-- the list of rows: its cells. -/
def SlQ (w : World) (q : Option Addr) (rs : List NR) : Prop := ∀ k, k < rs.length → ∃ b off, q = some ⟨b, off, none⟩ ∧ w.cell? ⟨b, off + k, none⟩ = some (gq rs k).r.val
theorem gq_mem {rs : List NR} {k : Nat} (h : k < rs.length) : gq rs k ∈ rs := by
  unfold gq
  rw [List.getD_eq_getElem?_getD, List.getElem?_eq_getElem h]
  exact List.getElem_mem h
/-- what is left to put fits. -/
theorem put_fits {U : Nat → List Value} {rs : List NR} {k : Nat} {w : World} {DS : Nat → List D} (h : ApOk w rs DS) (hk : k < rs.length) (hU : putsV U (rs.drop k) = putsV (fun _ => []) rs) :
    (U 7).length ≤ 130 ∧ (U 0).length + (gq rs k).xs.length ≤ 130 := by
  obtain ⟨a, b, _⟩ := putsV_at (rs.drop k) U
  rw [hU] at a b
  have l0 := congrArg List.length ((h.vals 0 (by decide)).symm.trans a)
  have l7 := congrArg List.length ((h.vals 7 (by decide)).symm.trans b)
  rw [drop_gq hk] at l0 l7
  simp only [List.length_map, List.length_append, List.flatMap_cons] at l0 l7
  have m0 := h.most 0
  have m7 := h.most 7
  refine ⟨by omega, by omega⟩
set_option maxHeartbeats 3200000 in
set_option maxRecDepth 100000 in
theorem apartNats_any (q : Option Addr) (cq m : Nat) (rs : List NR) (DS : Nat → List D) (w : World) (hm : m = rs.length) (hq : SlQ w q rs) (h : ApOk w rs DS) (hm1 : m ≤ 100) :
    Calls Tryz.prog 21 #[.slice q m cq] w fun e w' => e = .returned (.bool true) ∧ But (fun b => ∃ j, j < 20 ∧ InD (DS j) b) w w' := by
  have HM := Lib.hid hm
  have HQ := Lib.hid hq
  have H := Lib.hid h
  have hmI : (m : Int) ≤ 100 := by omega
  clear hm hq h
  go_enter Tryz.func21, Tryz.ntmps21
  go_wp2
  go_loopw [4] (fun kv wr => ∃ (k : Nat), k ≤ m ∧ kv = .int .i64 (k : Nat) ∧ Hid (∃ s U, BagV wr w.heap.size w.heap.size s U ∧ putsV U (rs.drop k) = putsV (fun _ => []) rs) ∧ Hid (Below w.heap.size w wr)) (fun kv _ => m - (intOf kv).toNat)
  case atStart =>
    refine ⟨0, Nat.zero_le _, rfl, ⟨fun _ => .slice none 0 0, fun _ => [], ⟨fun j hj => ?_, fun j hj => ?_, fun j hj => World.ownsRow_nil _ _ _ _, Nat.le_refl _, fun _ _ _ => rfl⟩, rfl⟩, (Below.refl _ _).alloc (Nat.le_refl _) _⟩
    · rw [World.cell?_alloc_at _ _ _ _ rfl]
      match j, hj with
      | 0, _ => rfl
      | 1, _ => rfl
      | 2, _ => rfl
      | 3, _ => rfl
      | 4, _ => rfl
      | 5, _ => rfl
      | 6, _ => rfl
      | 7, _ => rfl
      | 8, _ => rfl
      | 9, _ => rfl
      | 10, _ => rfl
      | 11, _ => rfl
      | 12, _ => rfl
      | 13, _ => rfl
      | 14, _ => rfl
      | 15, _ => rfl
      | 16, _ => rfl
      | 17, _ => rfl
      | 18, _ => rfl
      | 19, _ => rfl
      | j + 20, h => exact absurd h (by omega)
    · exact World.frozen?_alloc_at _ _ _ _ rfl
  case round =>
    obtain ⟨k, hk, rfl, HG, HB⟩ := hrel
    rename World => wr
    by_cases hkm : k < m
    · have hkI : (k : Int) < m := by omega
      have hkd : k < rs.length := by have := HM.out; omega
      obtain ⟨bq, oq, rfl, hcq⟩ := HQ.out k hkd
      have hcw := fkeep_cell HB.out hcq
      obtain ⟨s, U, hg, hU⟩ := HG.out
      obtain ⟨f7, f0⟩ := put_fits H.out hkd hU
      obtain ⟨hn, hsl⟩ := H.out.rows _ (gq_mem hkd)
      rw [drop_gq hkd] at hU
      obtain ⟨r, hr⟩ : ∃ r, r = gq rs k := ⟨_, rfl⟩
      rw [← hr] at hcw f0 hn hsl hU
      obtain ⟨⟨xp, xn, xc⟩, xs⟩ := r
      obtain ⟨ad, had⟩ : ∃ a, a = D.ad ⟨xp, xn, xc⟩ := ⟨_, rfl⟩
      simp only [D.val] at hcw
      simp only at f0 hn hsl
      rw [← had] at hcw hsl
      have HP := Lib.hid (putNats_v w.heap.size s U ad xn xc xs w wr hn hg hsl HB.out (by omega) (by omega))
      have HU : Hid (putsV (natsV (updV U 7 (U 7 ++ [.slice ad xn xc])) xs) (rs.drop (k + 1)) = putsV (fun _ => []) rs) := by rw [had]; exact hU
      have HKM := Lib.hid hkm
      clear hcq hg hU f7 f0 hn hsl hr hkd hkm HG had
      go_wp2_with (go_at_call 48; refine HP.out.mono ?_; rintro e w6 ⟨rfl, ⟨s6, hb6⟩, hbl6, _⟩; have HB6 := Lib.hid hb6; have HBL6 := Lib.hid (HB.out.trans hbl6); clear hb6 hbl6)
      go_roundw
      case rel => exact ⟨k + 1, by have := HKM.out; omega, by go_num, ⟨s6, _, HB6.out, HU.out⟩, HBL6.out⟩
      case measure => have := HKM.out; simp [intOf]; omega
    · have hkI : (m : Int) ≤ k := by omega
      obtain rfl : k = m := by omega
      obtain ⟨s, U, hg, hU⟩ := HG.out
      rw [List.drop_eq_nil_of_le (by have := HM.out; omega)] at hU
      have hU2 : U = putsV (fun _ => []) rs := hU
      have hfm : ∀ j, j < 20 → ∃ x : KL, s j = x.val ∧ x.ds = DS j ∧ SlD wr x.q x.ds ∧ x.m = x.ds.length ∧ ∀ b o, x.q = some ⟨b, o, none⟩ → w.heap.size < b := fun j hj => by
        have hrow := hg.row j hj
        rw [hU2, H.out.vals j hj] at hrow
        obtain ⟨q, n, c, e⟩ : ∃ q n c, s j = .slice q n c := by
          rcases hrow.2 with ⟨h, _⟩ | ⟨g, cap, cur, h, _⟩
          · exact ⟨_, _, _, h⟩
          · exact ⟨_, _, _, h⟩
        rw [e] at hrow
        obtain ⟨h1, h2, h3⟩ := slD_of_row hrow (H.out.lt j)
        exact ⟨⟨q, n, c, DS j⟩, e, rfl, h1, h2, h3⟩
      obtain ⟨K, hK⟩ : ∃ K : Nat → KL, ∀ j, (j < 20 → s j = (K j).val ∧ (K j).ds = DS j ∧ SlD wr (K j).q (K j).ds ∧ (K j).m = (K j).ds.length ∧ ∀ b o, (K j).q = some ⟨b, o, none⟩ → w.heap.size < b) ∧ (¬ j < 20 → K j = kl0) := by
        refine ⟨fun j => if hj : j < 20 then Classical.choose (hfm j hj) else kl0, fun j => ⟨fun hj => ?_, fun hj => dif_neg hj⟩⟩
        simp only [dif_pos hj]
        exact Classical.choose_spec (hfm j hj)
      have hroom : ∀ {j sz : Nat}, j < 20 → (∀ t, t < (DS j).length → Room w sz (dg (DS j) t)) → KOk wr sz (K j) := fun {j sz} hj hr => by
        obtain ⟨_, e2, e3, e4, _⟩ := (hK j).1 hj
        refine ⟨e4, e3, fun t ht => ?_, by rw [e2]; exact H.out.far j, by rw [e4, e2]; exact H.out.most j, fun t ht => ?_⟩
        · rw [e4, e2] at ht
          rw [e2]
          exact (hr t ht).at HB.out.size fun b e => HB.out.block b ((hr t ht).lt b e)
        · rw [e4, e2] at ht
          rw [e2]; exact H.out.few j t ht
      have hin : ∀ j b, InD (K j).ds b → j < 20 ∧ InD (DS j) b := fun j b hb => by
        by_cases hj : j < 20
        · refine ⟨hj, ?_⟩
          have e := ((hK j).1 hj).2.1
          rw [e] at hb; exact hb
        · rw [(hK j).2 hj] at hb
          obtain ⟨t, ht, _⟩ := hb
          simp [kl0] at ht
      have hbag : Bag2 wr w.heap.size K := by
        refine ⟨fun j hj h0 h7 => ?_, fun j hj => ?_, hroom (by decide) H.out.r0, hroom (by decide) H.out.r7, fun i j b hne h1 h2 => H.out.dis i j b hne (hin i b h1).2 (hin j b h2).2, fun i j b o e h2 => ?_, fun j h2 => ?_⟩
        · obtain ⟨e1, e2, _, e4, _⟩ := (hK j).1 hj
          have hd := H.out.nil hj h0 h7
          rw [hd] at e2
          have e5 : (K j).m = 0 := by rw [e4, e2]; rfl
          have e6 := hg.nil j hj (by rw [hU2, H.out.vals j hj, hd]; rfl)
          rw [e1] at e6
          obtain ⟨a1, a2, a3, a4, a5⟩ : ∃ a1 a2 a3 a4, K j = ⟨a1, a2, a3, a4⟩ := ⟨_, _, _, _, rfl⟩
          rw [a5] at e6 e2 ⊢
          simp only [KL.val, Value.slice.injEq] at e6
          obtain ⟨rfl, rfl, rfl⟩ := e6
          simp only at e2
          rw [e2]; rfl
        · rw [hg.cell j hj, ((hK j).1 hj).1]
        · by_cases hi : i < 20
          · have := ((hK i).1 hi).2.2.2.2 b o e
            have := H.out.lt j b (hin j b h2).2
            omega
          · rw [(hK i).2 hi] at e; cases e
        · have := H.out.lt j _ (hin j _ h2).2
          omega
      have HA := Lib.hid (apart_v w.heap.size K wr hbag)
      have HIN := Lib.hid hin
      clear hbag hroom hfm hg hU hU2 hin hK
      go_wp2_with (go_at_call 49; refine HA.out.mono ?_; rintro e w6 ⟨rfl, hb6⟩; have HB6 := Lib.hid hb6; clear hb6)
      go_ret
      exact ⟨rfl, (But.ofBelow HB.out _).trans (HB6.out.mono fun b ⟨j, _, h2⟩ => ⟨j, (HIN.out j b h2).1, (HIN.out j b h2).2⟩)⟩
end Go.Proofs.YtcahnkocfbcchaaGreatDoor


namespace Go.Proofs.YtcahnkocfbcchaaGreatDoor
open Go.RowKit Tnd

def blk (p : Option Addr) : Option Nat := p.map Addr.block
theorem blk_ad (p : Option Nat) : blk (p.map fun b => (⟨b, 0, none⟩ : Addr)) = p := by cases p <;> rfl
/-- a row of the call's own, as a row handed out. -/
theorem own_d {w : World} {B sz n m c : Nat} {T : TypeId} {p : Option Addr} {xs : List Value} (h : w.ownsRow B T sz (.slice p m c) n xs) :
    Value.slice p m c = D.val ⟨blk p, m, c⟩ ∧ Room w sz ⟨blk p, m, c⟩ ∧ ∀ b, blk p = some b → b < w.heap.size ∧ B ≤ b ∧ ∃ cur, w.heap[b]? = some (.cells cur T (0, 0)) := by
  obtain ⟨d, h1, h2, h3, _, h5⟩ := room_of_own h
  obtain ⟨dp, dn, dc⟩ := d
  simp only [D.val, D.ad, Value.slice.injEq] at h1
  obtain ⟨rfl, rfl, rfl⟩ := h1
  rw [blk_ad]
  refine ⟨rfl, h3, fun b e => ⟨h3.lt b e, h5 b e, ?_⟩⟩
  rcases h.2 with ⟨e1, _⟩ | ⟨g, cap, cur, e1, _, hh, _⟩
  · simp only [Value.slice.injEq] at e1
    rw [e] at e1; simp at e1
  · simp only [Value.slice.injEq] at e1
    rw [e] at e1
    simp only [Option.map_some, Option.some.injEq, Addr.mk.injEq] at e1
    obtain ⟨⟨rfl, _⟩, _⟩ := e1
    exact ⟨cur, hh⟩
theorem row_but {w w' : World} {B n z : Nat} {T : TypeId} {v : Value} {xs : List Value} {S : Nat → Prop} (h : w.ownsRow B T z v n xs) (hb : But S w w') (hS : ∀ g, v.ownBlock = some g → ¬ S g) : w'.ownsRow B T z v n xs := by
  obtain ⟨h1, h2⟩ := h
  refine ⟨h1, ?_⟩
  rcases h2 with h2 | ⟨g, cap, cur, rfl, hg, hh, r⟩
  · exact .inl h2
  · exact .inr ⟨g, cap, cur, rfl, hg, by rw [hb.block g (lt_of_block hh) (hS g rfl)]; exact hh, r⟩
/-- what a power is, and with what error. -/
def pe (z : Int) : Int := if z < 0 then 2 else 0
def pm (x : Nat) (z : Int) : Nat := if z < 0 then 0 else x ^ z.toNat
theorem pm_lt {x : Nat} {z : Int} (hx : x < 2 ^ 96) (hz : z ≤ 40) : pm x z < 2 ^ kbits := by
  unfold pm
  split
  · exact Nat.pow_pos (by omega)
  · rcases pow_small x 3 z.toNat hx with h | h
    · exact Nat.lt_of_lt_of_le h (Nat.pow_le_pow_right (by omega) (by have := kbits_eq; omega))
    · rw [h]; exact Nat.one_lt_two_pow (by have := kbits_eq; omega)
theorem fnat_nil (w : World) (B : Nat) : FNat w B (.agg #[.slice none 0 0]) 0 := ⟨none, 0, [], rfl, own_nil _ _ _ _, fun _ h => (nomatch h), right_nil, rfl⟩
theorem nat_val {q : Option Addr} {x d : Nat} {W : World} {B m : Nat} (hf : FNat W B (.agg #[.slice q x d]) m) (hm : m < tooBig) : x ≤ 2000 := by
  obtain ⟨p, c, k, e, _, _, hr, hv⟩ := hf
  simp only [Value.agg.injEq, Array.mk.injEq, List.cons.injEq, Value.slice.injEq, and_true] at e
  obtain ⟨rfl, rfl, rfl⟩ := e
  by_cases h : 2000 < k.length
  · have := big_of_len hr h; omega
  · omega
theorem pm_big {l : List Nat} {z : Int} (hd : Digs 4294967296 l) (hl : l.length ≤ 3) (hz : z ≤ 40) : pm (nv 4294967296 l) z < tooBig := by
  unfold pm
  split
  · exact Nat.lt_trans (by omega) one_lt_big
  · exact small_big _ l.length _ (nv_lt _ l hd) (by have := Nat.mul_le_mul hl (show z.toNat ≤ 40 by omega); omega)
theorem pw_any (p : Option Addr) (c : Nat) (l : List Nat) (z : Int) (W : World) (hl : l.length ≤ 3) (hz : z ≤ 40) (hd : Digs 4294967296 l) (hin : NatIn W W.heap.size (.agg #[.slice p l.length c]) l) :
    Calls Tryz.prog 24 #[.agg #[.slice p l.length c], .int .i64 z] W fun e w' => ∃ q x d, e = .returned (.tuple #[.agg #[.slice q x d], .int .i64 (pe z)]) ∧ FNat w' W.heap.size (.agg #[.slice q x d]) (pm (nv 4294967296 l) z) ∧ x ≤ 2000 ∧ Below W.heap.size W w' := by
  have hbig := pm_big hd hl hz
  unfold pm pe at *
  by_cases h : z < 0
  · rw [if_pos h, if_pos h]
    refine (pow_neg p l.length c z W h).mono ?_
    rintro e w' ⟨rfl, hb⟩
    exact ⟨none, 0, 0, rfl, fnat_nil _ _, by omega, hb⟩
  · rw [if_neg h] at hbig
    rw [if_neg h, if_neg h]
    refine (pow_int z z.toNat (by omega) _ l W hin (by omega) (by omega) hbig).mono ?_
    rintro e w' ⟨v, rfl, hf, hb⟩
    have hf2 := hf
    obtain ⟨q, d, k, rfl, _⟩ := hf2
    exact ⟨q, k.length, d, rfl, hf, nat_val hf hbig, hb⟩
theorem rpw_any (p : Option Addr) (c : Nat) (l : List Nat) (z : Int) (W : World) (hl : l.length ≤ 3) (hz : z ≤ 40) (hd : Digs 4294967296 l) (hs : Sl W .u32 p l) :
    Calls Tryz.prog 25 #[.agg #[.slice p l.length c], .int .i64 z] W fun e w' => ∃ q x d, e = .returned (.tuple #[.agg #[.slice q x d], .int .i64 (pe z)]) ∧ FNat w' W.heap.size (.agg #[.slice q x d]) (pm (nv 4294967296 l) z) ∧ x ≤ 2000 ∧ Below W.heap.size W w' := by
  have hbig := pm_big hd hl hz
  unfold pm pe at *
  by_cases h : z < 0
  · rw [if_pos h, if_pos h]
    refine (rpow_neg p l.length c z W h).mono ?_
    rintro e w' ⟨rfl, hb⟩
    exact ⟨none, 0, 0, rfl, fnat_nil _ _, by omega, hb⟩
  · rw [if_neg h] at hbig
    rw [if_neg h, if_neg h]
    refine (rpow_pos p c l z.toNat z (by omega) W hs hd hl (by omega)).mono ?_
    rintro e w' ⟨v, rfl, hf, hb⟩
    have hf2 := hf
    obtain ⟨q, d, k, rfl, _⟩ := hf2
    exact ⟨q, k.length, d, rfl, hf, nat_val hf hbig, hb⟩
theorem fnat_own {W : World} {B m x d : Nat} {q : Option Addr} (hf : FNat W B (.agg #[.slice q x d]) m) : ∃ k : List Nat, x = k.length ∧ Own W B 46 .u32 (.slice q x d) k := by
  obtain ⟨p, c, k, e, ho, _⟩ := hf
  simp only [Value.agg.injEq, Array.mk.injEq, List.cons.injEq, Value.slice.injEq, and_true] at e
  obtain ⟨rfl, rfl, rfl⟩ := e
  exact ⟨k, rfl, ho⟩
/-- which blocks two numbers' list reaches. -/
def Two (p1 p2 : Option Addr) (R : Nat) (b : Nat) : Prop := blk p1 = some b ∨ blk p2 = some b ∨ b = R
/-- a list of two numbers of the call's own, whose digits lie apart. -/
theorem apart2_any (p1 p2 : Option Addr) (n1 n2 c1 c2 B1 B2 m1 m2 : Nat) (w : World) (h1 : FNat w B1 (.agg #[.slice p1 n1 c1]) m1) (h2 : FNat w B2 (.agg #[.slice p2 n2 c2]) m2) (k1 : n1 ≤ 2000) (k2 : n2 ≤ 2000) (h12 : ∀ b, blk p1 = some b → b < B2) :
    Calls Tryz.prog 21 #[.slice (some ⟨w.heap.size + 1, 0, none⟩) 1 1] ((w.alloc (.cells #[.slice p1 n1 c1, .slice p2 n2 c2] 24)).alloc (.cells #[.slice (some ⟨w.heap.size, 0, none⟩) 2 2] 38)) fun e w' => e = .returned (.bool true) ∧ But (Two p1 p2 w.heap.size) ((w.alloc (.cells #[.slice p1 n1 c1, .slice p2 n2 c2] 24)).alloc (.cells #[.slice (some ⟨w.heap.size, 0, none⟩) 2 2] 38)) w' := by
  obtain ⟨l1, _, o1⟩ := fnat_own h1
  obtain ⟨l2, _, o2⟩ := fnat_own h2
  obtain ⟨e1, r1, b1⟩ := own_d o1
  obtain ⟨e2, r2, b2⟩ := own_d o2
  obtain ⟨W1, hW1⟩ : ∃ W, W = w.alloc (.cells #[.slice p1 n1 c1, .slice p2 n2 c2] 24) := ⟨_, rfl⟩
  obtain ⟨W2, hW2⟩ : ∃ W, W = W1.alloc (.cells #[.slice (some ⟨w.heap.size, 0, none⟩) 2 2] 38) := ⟨_, rfl⟩
  have hs1 : W1.heap.size = w.heap.size + 1 := by rw [hW1]; simp
  have g1 : Below w.heap.size w W1 := by rw [hW1]; exact bl_alloc _ _
  have g2 : Below W1.heap.size W1 W2 := by rw [hW2]; exact bl_alloc _ _
  have g12 := bl_trans g1 g2
  have x1 : Bx W1 w.heap.size 24 #[.slice p1 n1 c1, .slice p2 n2 c2] := by rw [hW1]; exact Bx.new _ _ _
  have x2 : Bx W2 (w.heap.size + 1) 38 #[.slice (some ⟨w.heap.size, 0, none⟩) 2 2] := by rw [hW2, ← hs1]; exact Bx.new _ _ _
  have x12 := x1.below g2
  rw [← hW1, ← hW2]
  have hne : ∀ b, blk p1 = some b → blk p2 ≠ some b := fun b s t => by have := h12 b s; have := (b2 b t).2.1; omega
  have hr0 : ∀ k, k < 2 → Room W2 1 (dg [⟨blk p1, n1, c1⟩, ⟨blk p2, n2, c2⟩] k) := fun k hk => by
    match k, hk with
    | 0, _ => exact r1.below g12
    | 1, _ => exact r2.below g12
  have hr7 : Room W2 1 ⟨some w.heap.size, 2, 2⟩ := by
    refine ⟨Nat.le_refl _, by show 2 ≤ maxLen; simp only [maxLen]; omega, fun h => (nomatch h), fun b e => (by cases e; exact x12.lt), fun b e j hj => ?_⟩
    cases e
    refine ⟨?_, x12.free j⟩
    match j, hj with
    | 0, _ => rw [x12.cell (i := 0) rfl]; rfl
    | 1, _ => rw [x12.cell (i := 1) rfl]; rfl
  have hin0 : ∀ b, InD [⟨blk p1, n1, c1⟩, ⟨blk p2, n2, c2⟩] b → blk p1 = some b ∨ blk p2 = some b := fun b ⟨k, hk, e⟩ => by
    match k, hk with
    | 0, _ => exact .inl e
    | 1, _ => exact .inr e
  have hin7 : ∀ b, InD [(⟨some w.heap.size, 2, 2⟩ : D)] b → b = w.heap.size := fun b ⟨k, hk, e⟩ => by
    match k, hk with
    | 0, _ => exact (Option.some.inj e).symm
  have hlt0 : ∀ b, blk p1 = some b ∨ blk p2 = some b → b < w.heap.size := fun b h => h.elim (fun h => (b1 b h).1) (fun h => (b2 b h).1)
  obtain ⟨DS, hDS⟩ : ∃ DS : Nat → List D, DS = fun j => if j = 0 then [⟨blk p1, n1, c1⟩, ⟨blk p2, n2, c2⟩] else if j = 7 then [⟨some w.heap.size, 2, 2⟩] else [] := ⟨_, rfl⟩
  have d0 : DS 0 = [⟨blk p1, n1, c1⟩, ⟨blk p2, n2, c2⟩] := by rw [hDS]; rfl
  have d7 : DS 7 = [⟨some w.heap.size, 2, 2⟩] := by rw [hDS]; rfl
  have dn : ∀ j, j ≠ 0 → j ≠ 7 → DS j = [] := fun j a b => by rw [hDS]; simp only [if_neg a, if_neg b]
  have hin : ∀ j b, InD (DS j) b → (j = 0 ∧ (blk p1 = some b ∨ blk p2 = some b)) ∨ (j = 7 ∧ b = w.heap.size) := fun j b h => by
    by_cases a : j = 0
    · subst a; rw [d0] at h; exact .inl ⟨rfl, hin0 b h⟩
    · by_cases a' : j = 7
      · subst a'; rw [d7] at h; exact .inr ⟨rfl, hin7 b h⟩
      · rw [dn j a a'] at h
        obtain ⟨k, hk, _⟩ := h
        simp at hk
  obtain ⟨rs, hrs⟩ : ∃ rs : List NR, rs = [⟨⟨some w.heap.size, 2, 2⟩, [⟨blk p1, n1, c1⟩, ⟨blk p2, n2, c2⟩]⟩] := ⟨_, rfl⟩
  have hap : ApOk W2 rs DS := by
    refine ⟨fun j hj => ?_, fun k hk => ?_, fun k hk => ?_, fun j => ?_, fun j => ?_, fun j k hk => ?_, fun i j b hne' i1 i2 => ?_, fun j b h => ?_, fun r hr => ?_⟩
    · obtain ⟨a, b, c⟩ := putsV_at rs (fun _ => [])
      by_cases j0 : j = 0
      · subst j0; rw [a, d0, hrs]; rfl
      · by_cases j7 : j = 7
        · subst j7; rw [b, d7, hrs]; rfl
        · rw [c j j0 j7, dn j j0 j7]; rfl
    · rw [d0] at hk ⊢; exact hr0 k hk
    · rw [d7] at hk ⊢
      match k, hk with
      | 0, _ => exact hr7
    · intro a b x ha hb ea eb
      by_cases j0 : j = 0
      · subst j0; rw [d0] at ha hb ea eb
        match a, b, ha, hb with
        | 0, 0, _, _ => rfl
        | 1, 1, _, _ => rfl
        | 0, 1, _, _ => exact absurd eb (hne x ea)
        | 1, 0, _, _ => exact absurd ea (hne x eb)
      · by_cases j7 : j = 7
        · subst j7; rw [d7] at ha hb
          simp only [List.length_singleton] at ha hb
          omega
        · rw [dn j j0 j7] at ha; simp at ha
    · by_cases j0 : j = 0
      · subst j0; rw [d0]; simp
      · by_cases j7 : j = 7
        · subst j7; rw [d7]; simp
        · rw [dn j j0 j7]; simp
    · by_cases j0 : j = 0
      · subst j0; rw [d0] at hk ⊢
        match k, hk with
        | 0, _ => show n1 ≤ 100000; omega
        | 1, _ => show n2 ≤ 100000; omega
      · by_cases j7 : j = 7
        · subst j7; rw [d7] at hk ⊢
          match k, hk with
          | 0, _ => show (2 : Nat) ≤ 100000; omega
        · rw [dn j j0 j7] at hk; simp at hk
    · rcases hin i b i1 with ⟨rfl, u⟩ | ⟨rfl, u⟩ <;> rcases hin j b i2 with ⟨rfl, v⟩ | ⟨rfl, v⟩
      · exact hne' rfl
      · have := hlt0 b u; omega
      · have := hlt0 b v; omega
      · exact hne' rfl
    · have hs2 := g2.size
      rcases hin j b h with ⟨_, u⟩ | ⟨_, u⟩
      · have := hlt0 b u; omega
      · omega
    · rw [hrs] at hr
      obtain rfl := List.mem_singleton.1 hr
      refine ⟨rfl, .inr ⟨w.heap.size, 0, rfl, fun h => ?_, x12.lt, fun k hk => ?_⟩⟩
      · have := hlt0 _ (hin0 _ h); omega
      · match k, hk with
        | 0, _ => rw [show dg [(⟨blk p1, n1, c1⟩ : D), ⟨blk p2, n2, c2⟩] 0 = ⟨blk p1, n1, c1⟩ from rfl, ← e1]; exact x12.cell (i := 0) rfl
        | 1, _ => rw [show dg [(⟨blk p1, n1, c1⟩ : D), ⟨blk p2, n2, c2⟩] 1 = ⟨blk p2, n2, c2⟩ from rfl, ← e2]; exact x12.cell (i := 1) rfl
  have hq : SlQ W2 (some ⟨w.heap.size + 1, 0, none⟩) rs := fun k hk => by
    rw [hrs] at hk
    match k, hk with
    | 0, _ => exact ⟨_, 0, rfl, by rw [hrs]; exact x2.cell (i := 0) rfl⟩
  refine (apartNats_any (some ⟨w.heap.size + 1, 0, none⟩) 1 1 rs DS W2 (by rw [hrs]; rfl) hq hap (by omega)).mono ?_
  rintro e w' ⟨rfl, hb⟩
  refine ⟨rfl, hb.mono fun b ⟨j, _, h⟩ => ?_⟩
  rcases hin j b h with ⟨_, u | u⟩ | ⟨_, u⟩
  · exact .inl u
  · exact .inr (.inl u)
  · exact .inr (.inr u)
end Go.Proofs.YtcahnkocfbcchaaGreatDoor

