/- What a scan tells is what the document tells: the walk of the law. -/
import Derived.Test.YtkpkhjflelmdjaaZo
import Derived.Test.YtkpkhjflelmdjaaYa2
import Derived.Deep.RegionHeld3
namespace Go.Proofs.Ytkpkhjflelmdjaa
open Go.RowKit Tnd

/-- two scans, the program's and the document's, each at its place. -/
def Tw (w0 W : World) (b bx : Nat) (l : List Int) (k j : Nat) : Prop := Sc W w0.heap.size b l k ∧ Rs W w0.heap.size bx l j ∧ b ≠ bx ∧ Below w0.heap.size w0 W
theorem Tw.below {w0 W W' : World} {b bx : Nat} {l : List Int} {k j : Nat} (h : Tw w0 W b bx l k j) (hb : Below W.heap.size W W') : Tw w0 W' b bx l k j :=
  ⟨Cu.below h.1 hb, Cu.below h.2.1 hb, h.2.2.1, h.2.2.2.trans (hb.mono h.2.2.2.size)⟩
theorem Cu.apart {W W' : World} {B B' b c : Nat} {T T' : TypeId} {R R' : List Value} {l l' : List Int} {k k' : Nat} (h : Cu W B b T R l k) (hc : Cu W B' c T' R' l' k') (hne : c ≠ b) (hg : W.grownBy W' (some c)) : Cu W' B b T R l k :=
  h.kept hg (fun b2 e => by
    cases e
    obtain ⟨p, cp, h1, _, h3, _⟩ := hc
    exact ⟨hne, fun _ => ⟨_, _, _, h1, h3⟩⟩)
theorem Tw.tell {w0 W W' : World} {b bx : Nat} {l : List Int} {k j k' : Nat} (h : Tw w0 W b bx l k j) (hc : Sc W' w0.heap.size b l k') (hg : W.grownBy W' (some b)) : Tw w0 W' b bx l k' j :=
  ⟨hc, Cu.apart h.2.1 h.1 h.2.2.1 hg, h.2.2.1, h.2.2.2.trans (grown_below hg (Cu.le h.1).1 h.2.2.2.size)⟩
theorem Tw.want {w0 W W' : World} {b bx : Nat} {l : List Int} {k j j' : Nat} (h : Tw w0 W b bx l k j) (hc : Rs W' w0.heap.size bx l j') (hg : W.grownBy W' (some bx)) : Tw w0 W' b bx l k j' :=
  ⟨Cu.apart h.1 h.2.1 (Ne.symm h.2.2.1) hg, hc, h.2.2.1, h.2.2.2.trans (grown_below hg (Cu.le h.2.1).1 h.2.2.2.size)⟩
/-- what a third scan is asked leaves two as they were. -/
theorem Tw.other {w0 W W' : World} {b bx c : Nat} {l l' : List Int} {k j k' : Nat} {B' : Nat} {T : TypeId} {R : List Value} (h : Tw w0 W b bx l k j) (hc : Cu W B' c T R l' k') (h1 : c ≠ b) (h2 : c ≠ bx) (hB : w0.heap.size ≤ c) (hg : W.grownBy W' (some c)) : Tw w0 W' b bx l k j :=
  ⟨Cu.apart h.1 hc h1 hg, Cu.apart h.2.1 hc h2 hg, h.2.2.1, h.2.2.2.trans (grown_below hg hB h.2.2.2.size)⟩
theorem Tw.far {w0 W : World} {b bx c : Nat} {l : List Int} {k j : Nat} (h : Tw w0 W b bx l k j) (hc : W.heap.size ≤ c) : c ≠ b ∧ c ≠ bx ∧ w0.heap.size ≤ c := by
  have h1 := Cu.lt h.1
  have h2 := Cu.lt h.2.1
  have h3 := h.2.2.2.size
  exact ⟨by omega, by omega, by omega⟩
/-- with the cells of an ask. -/
theorem Tw.a {w0 W : World} {b bx : Nat} {l : List Int} {k j : Nat} {a1 a2 : Addr} {y t : Value} (hk : ∀ W, Below w0.heap.size w0 W → W.cell? a1 = some y ∧ W.cell? a2 = some t) (h : Tw w0 W b bx l k j) : W.cell? a1 = some y ∧ W.cell? a2 = some t := hk W h.2.2.2
theorem Tw.at {w0 W : World} {b bx : Nat} {l : List Int} {k j : Nat} (h : Tw w0 W b bx l k j) : W.cell? ⟨bx, 1, none⟩ = some (.int .i64 (j : Nat)) := h.2.1.cell1
theorem ownI_block {w : World} {B g n cap : Nat} {l : List Int} (h : OwnI w B (.slice (some ⟨g, 0, none⟩) n cap) l) : ∃ cur, w.heap[g]? = some (.cells cur 3 (0, 0)) ∧ cur.size = cap := by
  rcases h.2 with ⟨e, _⟩ | ⟨g2, cap2, cur, e, _, h1, _, _, h2, _⟩
  · cases e
  · cases e; exact ⟨cur, h1, by omega⟩
/-- what both tell of one ask. -/
theorem both_tell (w0 : World) (l : List Int) (k : Nat) (y : Int) (t : ByteArray) (ht : t.size ≤ 1000000) :
    ∃ (x1 x2 x3 : Int) (x4 : ByteArray) (x5 x6 : Bool) (k' : Nat), (∀ W : World, (binOp .neq 37 (.agg (tvl x1 x2 x3 x4 x5 x6)) (.agg (tvl x1 x2 x3 x4 x5 x6))).run Try.prog W = .ok (.bool false) W) ∧
      (∀ W b, Sc W w0.heap.size b l k → Calls Try.prog 16 #[.pointer (some ⟨b, 0, none⟩), .agg #[.int .i64 y, .string t]] W fun e w' => e = .returned (.agg (tvl x1 x2 x3 x4 x5 x6)) ∧ Sc w' w0.heap.size b l k' ∧ W.grownBy w' (some b)) ∧
      (∀ W b, Rs W w0.heap.size b l k → Calls Try.prog 17 #[.pointer (some ⟨b, 0, none⟩), .agg #[.int .i64 y, .string t]] W fun e w' => e = .returned (.agg (tvl x1 x2 x3 x4 x5 x6)) ∧ Rs w' w0.heap.size b l k' ∧ W.grownBy w' (some b)) := by
  refine ⟨_, _, _, _, _, _, k + (askR (pk y) t.data.toList (l.drop k)).2.2.2.2, fun W => told_neq _ _ _ _ _ _ W, fun W b hW => tells_any w0.heap.size b l k y t W hW ht, fun W b hW => wants_any w0.heap.size b l k y t W hW ht⟩

set_option maxHeartbeats 6400000 in
set_option maxRecDepth 100000 in
theorem reads_true (q : Option Addr) (l : List Int) (c : Nat) (qa : Option Addr) (asks : List (Int × ByteArray)) (ca : Nat) (w : World) (hs : SlI w q l) (hq : q = none → c = 0) (hlc : l.length ≤ c) (hcm : c ≤ 9223372036854775807)
    (ha : SlA w qa asks) (hal : asks.length ≤ ca) (ham : ca ≤ 9223372036854775807) (hst : ∀ i, i < asks.length → (ga asks i).2.size ≤ 9223372036854775807) :
    Calls Try.prog 3 #[.slice q l.length c, .slice qa asks.length ca] w fun e w' => e = .returned (.bool true) ∧ Below w.heap.size w w' := by
  obtain ⟨n, hn⟩ : ∃ n, n = l.length := ⟨_, rfl⟩
  obtain ⟨na, hna⟩ : ∃ n, n = asks.length := ⟨_, rfl⟩
  rw [← hn] at hlc ⊢
  rw [← hna] at hal hst ⊢
  have hnI : (n : Int) ≤ 9223372036854775807 := by omega
  have hnaI : (na : Int) ≤ 9223372036854775807 := by omega
  have hlcI : (n : Int) ≤ (c : Int) := by omega
  have hcmI : (c : Int) ≤ 9223372036854775807 := by omega
  have hlaI : (na : Int) ≤ (ca : Int) := by omega
  have hamI : (ca : Int) ≤ 9223372036854775807 := by omega
  have HSL := Lib.hid hs
  have HQ := Lib.hid hq
  have HA := Lib.hid ha
  have HST := Lib.hid hst
  have HN := Lib.hid hn
  have HNA := Lib.hid hna
  clear hs hq ha hst hn hna hal ham hlc hcm
  by_cases hl : 300 < n
  · have hlI : (300 : Int) < n := by omega
    clear hl
    go_enter Try.func3, Try.ntmps3
    go_wp2_with fail
    refine (awake_true _).mono ?_
    rintro e w1 ⟨rfl, hb⟩
    go_wp2
    go_ret
    exact ⟨rfl, hb⟩
  have hlI : (n : Int) ≤ 300 := by omega
  by_cases hla : 300 < na
  · have hlaJ : (300 : Int) < na := by omega
    clear hl hla
    go_enter Try.func3, Try.ntmps3
    go_wp2_with fail
    refine (awake_true _).mono ?_
    rintro e w1 ⟨rfl, hb⟩
    go_wp2
    go_ret
    exact ⟨rfl, hb⟩
  have hlaJ : (na : Int) ≤ 300 := by omega
  have HL3 := Lib.hid (show n ≤ 300 by omega)
  have HLENT : Hid (Calls Try.prog 9 #[.slice q n c] w (LentPost n l w)) := by
    have := lent_any q c l w HSL.out (by rw [← HN.out]; have := HL3.out; omega) HQ.out
    rw [← HN.out] at this
    exact this
  clear hl hla
  go_enter Try.func3, Try.ntmps3
  go_wp2_with fail
  refine HLENT.out.mono ?_
  rintro e w1 ⟨g, cap, rfl, hcap, hcapm, ho1, hb1⟩
  have HCAP := Lib.hid (And.intro hcap hcapm)
  have hcapI : (n : Int) + 12 ≤ (cap : Int) := by omega
  have hcapJ : (cap : Int) ≤ 9223372036854775807 := by omega
  have HO1 := Lib.hid ho1
  have HB1 := Lib.hid hb1
  have HNEW : Hid (Calls Try.prog 10 #[.slice (some ⟨g, 0, none⟩) n cap] w1 (ObjPost l 0 w1)) := by
    have := new_any (some ⟨g, 0, none⟩) l cap w1 (lent_sl ho1 HN.out.symm (marks_length 12)) (fun h => by cases h) (by rw [← HN.out]; have := HL3.out; omega)
    rw [← HN.out] at this
    exact this
  clear hcap hcapm ho1 hb1 HLENT
  go_wp2_with fail
  refine HNEW.out.mono ?_
  rintro e w2 ⟨b, rfl, hc2, hb2⟩
  have HB2 : Hid (Below w.heap.size w w2) := bl_trans HB1.out hb2
  have HC2 : Hid (Sc w2 w1.heap.size b l 0) := hc2
  have HO2 := Lib.hid (ownI_below HO1.out hb2)
  have HW12 : Hid (w1.heap.size ≤ w2.heap.size) := hb2.size
  have HG1 : Hid (w.heap.size ≤ g ∧ g < w1.heap.size) := World.ownsRow.lt HO1.out g rfl
  have HREF : Hid (Calls Try.prog 11 #[.slice q n c] w2 (RefPost l 0 w2)) := by
    have := new_ref q l c w2 (HSL.out.below HB2.out) HQ.out (by rw [← HN.out]; have := HL3.out; omega)
    rw [← HN.out] at this
    exact this
  clear hc2 hb2 HNEW HO1 HB1
  go_wp2_with fail
  refine HREF.out.mono ?_
  rintro e w3 ⟨bx, rfl, hx3, hb3⟩
  have HB3 : Hid (Below w.heap.size w w3) := bl_trans HB2.out hb3
  have HC3 : Hid (Sc w3 w1.heap.size b l 0) := Cu.below HC2.out hb3
  have HX3 : Hid (Rs w3 w1.heap.size bx l 0) := Cu.down hx3 HW12.out
  have HO3 := Lib.hid (ownI_below HO2.out hb3)
  have HBX : Hid (b ≠ bx) := by have h1 := Cu.lt HC2.out; have h2 := (Cu.le hx3).1; show _ ≠ _; omega
  have HKEPT : Hid (Calls Try.prog 12 #[.slice (some ⟨g, 0, none⟩) n cap, .slice q n c] w3 fun e w' => e = .returned (.bool true) ∧ Below w3.heap.size w3 w') := by
    have := kept_any q c l w.heap.size g cap w3 (HSL.out.below HB3.out) (by rw [← HN.out]; have := HL3.out; omega) (by rw [← HN.out]; exact HO3.out) (by rw [← HN.out]; exact HCAP.out.1) HCAP.out.2
    rw [← HN.out] at this
    exact this
  clear hx3 hb3 HREF HO2 HC2 HB2
  go_wp2_with (go_at_call 12; refine HKEPT.out.mono ?_; rintro e w4 ⟨rfl, hb4⟩)
  have HB4 : Hid (Below w.heap.size w w4) := bl_trans HB3.out hb4
  have HC4 : Hid (Sc w4 w1.heap.size b l 0) := Cu.below HC3.out hb4
  have HX4 : Hid (Rs w4 w1.heap.size bx l 0) := Cu.below HX3.out hb4
  have HOV : Hid (Calls Try.prog 13 #[.slice (some ⟨g, 0, none⟩) n cap] w4 fun e w' => e = .returned (.tuple #[]) ∧ w4.grownBy w' (some g)) := by
    obtain ⟨cur, h1, h2⟩ := ownI_block (ownI_below HO3.out hb4)
    exact over_any g n cap cur w4 h1 h2 HCAP.out.1 HCAP.out.2 HL3.out
  clear hb4 HKEPT HO3 HC3 HX3 HB3
  refine HOV.out.mono ?_
  rintro e w5 ⟨rfl, hg5⟩
  have HTW : Hid (Tw w w5 b bx l 0 0) := ⟨Cu.down (Cu.kept_lt HC4.out hg5 HG1.out.2) (by have := HG1.out; omega), Cu.down (Cu.kept_lt HX4.out hg5 HG1.out.2) (by have := HG1.out; omega), HBX.out, HB4.out.trans (grown_below hg5 HG1.out.1 HB4.out.size)⟩
  clear hg5 HOV HC4 HX4 HB4
  go_wp2
  go_loopw [6, 8] (fun sv iv wr => ∃ (i k b : Nat), i ≤ na ∧ sv = .pointer (some ⟨b, 0, none⟩) ∧ iv = .int .i64 (i : Nat) ∧ Hid (Tw w wr b bx l k k)) (fun _ iv _ => na - (intOf iv).toNat)
  case atStart => exact ⟨0, 0, b, Nat.zero_le _, rfl, rfl, HTW⟩
  case round =>
    clear HTW HBX
    obtain ⟨i, k, b, hi, rfl, rfl, HT⟩ := hrel
    rename World => wr
    by_cases hin : i < na
    · have hinI : (i : Int) < na := by omega
      obtain ⟨ba, oa, rfl, hac⟩ := HA.out.at (show i < asks.length by rw [← HNA.out]; exact hin)
      have hts := HST.out i hin
      generalize (ga asks i).1 = y at hac
      generalize (ga asks i).2 = t at hac hts
      have HAC := Lib.hid hac
      obtain ⟨hy, ht⟩ := hac wr HT.out.2.2.2
      clear hac
      have htI : (t.size : Int) ≤ 9223372036854775807 := by omega
      by_cases htl : 300 < t.size
      · have htlI : (300 : Int) < t.size := by omega
        have HBr := Lib.hid HT.out.2.2.2
        clear htl hts HT hin
        go_wp2_with fail
        refine (awake_true _).mono ?_
        rintro e w6 ⟨rfl, hb⟩
        go_wp2
        go_ret
        exact ⟨rfl, bl_trans HBr.out hb⟩
      · have htlI : (t.size : Int) ≤ 300 := by omega
        have HTS := Lib.hid (show t.size ≤ 1000000 by omega)
        have HIN := Lib.hid hin
        clear htl hts hin
        obtain ⟨n1, n2, n3, n4, n5, n6, k', hneq, hp, hd⟩ := both_tell w l k y t HTS.out
        obtain ⟨m1, m2, m3, m4, m5, m6, k4, hneq4, hp4, hd4⟩ := both_tell w l k 4 ⟨#[]⟩ (by decide)
        unfold tvl at hneq hp hd hneq4 hp4 hd4
        have HP := Lib.hid hp
        have HD := Lib.hid hd
        have HP4 := Lib.hid hp4
        have HD4 := Lib.hid hd4
        clear hp hd hp4 hd4
        go_wp2_with fail
        refine (pick8 y _).mono ?_
        rintro e w5 ⟨rfl, rfl⟩
        have hz8 : ((pk y : Nat) : Int) ≤ 8 := by have := pk_lt y; omega
        generalize pk y = z at *
        by_cases h7 : z = 7
        · have h7b : ((z : Int) == 7) = true := by rw [h7]; rfl
          clear h7 hz8
          go_wp2_with fail
          refine (Copy_scan w.heap.size b l k w5 HT.out.1).mono ?_
          rintro e w6 ⟨cb, rfl, hc, hb⟩
          have HF : Hid (cb ≠ b ∧ cb ≠ bx ∧ w.heap.size ≤ cb) := HT.out.far (Cu.le hc).1
          have HC6 : Hid (Sc w6 w.heap.size cb l k) := Cu.down hc HT.out.2.2.2.size
          have HT6 : Hid (Tw w w6 b bx l k k) := HT.out.below hb
          clear hc hb
          have HPw : Hid (∀ W, Below w6.heap.size w6 W → Calls Try.prog 16 #[.pointer (some ⟨cb, 0, none⟩), .agg #[.int .i64 4, .string ⟨#[]⟩]] W fun e w' => e = .returned (.agg #[.int .i64 m1, .int .i64 m2, .int .i64 m3, .string m4, .bool m5, .bool m6]) ∧ Tw w w' b bx l k k) := fun W h => (HP4.out W cb (Cu.below HC6.out h)).mono (by rintro e w' ⟨rfl, h1, h2⟩; exact ⟨rfl, (HT6.out.below h).other (Cu.below HC6.out h) HF.out.1 HF.out.2.1 HF.out.2.2 h2⟩)
          have HCR : Hid (∀ W, Tw w W b bx l k k → Calls Try.prog 18 #[.pointer (some ⟨bx, 0, none⟩)] W fun e w' => ∃ b2, e = .returned (.pointer (some ⟨b2, 0, none⟩)) ∧ Tw w w' b bx l k k ∧ Hid (Rs w' w.heap.size b2 l k ∧ b2 ≠ b ∧ b2 ≠ bx ∧ w.heap.size ≤ b2)) := fun W h => (copy_ref w.heap.size bx l k W h.2.1).mono (by rintro e w' ⟨b2, rfl, h1, h2⟩; exact ⟨b2, rfl, h.below h2, Cu.down h1 h.2.2.2.size, h.far (Cu.le h1).1⟩)
          have HDw : Hid (∀ W b2, Tw w W b bx l k k → Hid (Rs W w.heap.size b2 l k ∧ b2 ≠ b ∧ b2 ≠ bx ∧ w.heap.size ≤ b2) → Calls Try.prog 17 #[.pointer (some ⟨b2, 0, none⟩), .agg #[.int .i64 4, .string ⟨#[]⟩]] W fun e w' => e = .returned (.agg #[.int .i64 m1, .int .i64 m2, .int .i64 m3, .string m4, .bool m5, .bool m6]) ∧ Tw w w' b bx l k k) := fun W b2 h h2 => (HD4.out W b2 h2.out.1).mono (by rintro e w' ⟨rfl, h3, h4⟩; exact ⟨rfl, h.other h2.out.1 h2.out.2.1 h2.out.2.2.1 h2.out.2.2.2 h4⟩)
          have HATw : Hid (∀ W, Tw w W b bx l k k → Calls Try.prog 19 #[.pointer (some ⟨b, 0, none⟩)] W fun e w' => e = .returned (.int .i64 (k : Nat)) ∧ w' = W) := fun W h => At_scan w.heap.size b l k W h.1
          have hsD := (HT6.out.below (bl_drew _)).at
          clear HP4 HD4 HF HC6 HT hy ht
          go_wp2
          go_region_held3 (fun W => W.cell? ⟨bx, 1, none⟩ = some (.int .i64 (k : Nat))) (first | exact hsD | assumption) (first | (go_at_call 16; (with_reducible refine (HPw.out _ (bl_drew _)).mono ?_); rintro e w7 ⟨rfl, ht7⟩; have HT7 := Lib.hid ht7; have hs7 := Tw.at ht7; clear ht7) | (go_at_call 18; (with_reducible refine (HCR.out _ HT7.out).mono ?_); rintro e w8 ⟨b2, rfl, ht8, HB2⟩; have HT8 := Lib.hid ht8; have hs8 := Tw.at ht8; clear ht8) | (go_at_call 17; (with_reducible refine (HDw.out _ _ HT8.out HB2).mono ?_); rintro e w9 ⟨rfl, ht9⟩; have HT9 := Lib.hid ht9; have hs9 := Tw.at ht9; clear ht9) | (go_at_call 19; (with_reducible refine (HATw.out _ HT9.out).mono ?_); rintro e w10 ⟨rfl, rfl⟩))
          rename_i hHeld
          clear hHeld hneq4 HPw HCR HDw HATw hsD hs7 hs8 hs9 HT7 HT8 HB2 HT6
          go_wp2_with fail
          refine (Copy_scan w.heap.size b l k w10 HT9.out.1).mono ?_
          rintro e w11 ⟨b3, rfl, hc, hb⟩
          have HTN : Hid (Tw w w11 b3 bx l k k) := ⟨Cu.down hc HT9.out.2.2.2.size, Cu.below HT9.out.2.1 hb, (HT9.out.far (Cu.le hc).1).2.1, HT9.out.2.2.2.trans (hb.mono HT9.out.2.2.2.size)⟩
          clear hc hb HT9
          have HPw : Hid (∀ W, Tw w W b3 bx l k k → Calls Try.prog 16 #[.pointer (some ⟨b3, 0, none⟩), .agg #[.int .i64 y, .string t]] W fun e w' => e = .returned (.agg #[.int .i64 n1, .int .i64 n2, .int .i64 n3, .string n4, .bool n5, .bool n6]) ∧ Tw w w' b3 bx l k' k) := fun W h => (HP.out W b3 h.1).mono (by rintro e w' ⟨rfl, h1, h2⟩; exact ⟨rfl, h.tell h1 h2⟩)
          have HDw : Hid (∀ W, Tw w W b3 bx l k' k → Calls Try.prog 17 #[.pointer (some ⟨bx, 0, none⟩), .agg #[.int .i64 y, .string t]] W fun e w' => e = .returned (.agg #[.int .i64 n1, .int .i64 n2, .int .i64 n3, .string n4, .bool n5, .bool n6]) ∧ Tw w w' b3 bx l k' k') := fun W h => (HD.out W bx h.2.1).mono (by rintro e w' ⟨rfl, h1, h2⟩; exact ⟨rfl, h.want h1 h2⟩)
          have hsD := Tw.a HAC.out (HTN.out.below (bl_drew _))
          clear HP HD
          go_wp2
          go_region_held3 (fun W => W.cell? ⟨ba, oa + i * 2, none⟩ = some (.int .i64 y) ∧ W.cell? ⟨ba, oa + i * 2 + 1, none⟩ = some (.string t)) (first | exact hsD | assumption) (first | (go_at_call 16; (with_reducible refine (HPw.out _ (HTN.out.below (bl_drew _))).mono ?_); rintro e w7 ⟨rfl, ht7⟩; have HT7 := Lib.hid ht7; have hs7 := Tw.a HAC.out ht7; clear ht7) | (go_at_call 17; (with_reducible refine (HDw.out _ HT7.out).mono ?_); rintro e w8 ⟨rfl, ht8⟩; have HT8 := Lib.hid ht8; have hs8 := Tw.a HAC.out ht8; clear ht8))
          rename_i hHeld
          clear hHeld
          go_wp2
          go_roundw
          case rel => exact ⟨i + 1, k', b3, by have := HIN.out; omega, by rfl, by rfl, HT8⟩
          case measure => have := HIN.out; simp only [intOf]; omega
        · have h7b : ((z : Int) == 7) = false := by rw [beq_eq_false_iff_ne]; omega
          clear h7 hneq4 HP4 HD4 hz8
          have HPw : Hid (∀ W, Tw w W b bx l k k → Calls Try.prog 16 #[.pointer (some ⟨b, 0, none⟩), .agg #[.int .i64 y, .string t]] W fun e w' => e = .returned (.agg #[.int .i64 n1, .int .i64 n2, .int .i64 n3, .string n4, .bool n5, .bool n6]) ∧ Tw w w' b bx l k' k) := fun W h => (HP.out W b h.1).mono (by rintro e w' ⟨rfl, h1, h2⟩; exact ⟨rfl, h.tell h1 h2⟩)
          have HDw : Hid (∀ W, Tw w W b bx l k' k → Calls Try.prog 17 #[.pointer (some ⟨bx, 0, none⟩), .agg #[.int .i64 y, .string t]] W fun e w' => e = .returned (.agg #[.int .i64 n1, .int .i64 n2, .int .i64 n3, .string n4, .bool n5, .bool n6]) ∧ Tw w w' b bx l k' k') := fun W h => (HD.out W bx h.2.1).mono (by rintro e w' ⟨rfl, h1, h2⟩; exact ⟨rfl, h.want h1 h2⟩)
          have hsD := Tw.a HAC.out (HT.out.below (bl_drew _))
          clear HP HD
          go_wp2
          go_region_held3 (fun W => W.cell? ⟨ba, oa + i * 2, none⟩ = some (.int .i64 y) ∧ W.cell? ⟨ba, oa + i * 2 + 1, none⟩ = some (.string t)) (first | exact hsD | assumption) (first | (go_at_call 16; (with_reducible refine (HPw.out _ (HT.out.below (bl_drew _))).mono ?_); rintro e w7 ⟨rfl, ht7⟩; have HT7 := Lib.hid ht7; have hs7 := Tw.a HAC.out ht7; clear ht7) | (go_at_call 17; (with_reducible refine (HDw.out _ HT7.out).mono ?_); rintro e w8 ⟨rfl, ht8⟩; have HT8 := Lib.hid ht8; have hs8 := Tw.a HAC.out ht8; clear ht8))
          rename_i hHeld
          clear hHeld
          go_wp2
          go_roundw
          case rel => exact ⟨i + 1, k', b, by have := HIN.out; omega, by rfl, by rfl, HT8⟩
          case measure => have := HIN.out; simp only [intOf]; omega
    · have hinI : (na : Int) ≤ i := by omega
      have HBr := Lib.hid HT.out.2.2.2
      clear hin hi HT
      go_wp2_with fail
      refine (awake_true _).mono ?_
      rintro e w6 ⟨rfl, hb⟩
      go_wp2
      go_ret
      exact ⟨rfl, bl_trans HBr.out hb⟩
end Go.Proofs.Ytkpkhjflelmdjaa
