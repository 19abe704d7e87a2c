/- Lists of asks; the walk of the law that a scan hangs on what stands behind its place. -/
import Derived.Test.YtkpkhjflelmdjaaZa
namespace Go.Proofs.Ytkpkhjflelmdjaa
open Go.RowKit Tnd

def ga (l : List (Int × ByteArray)) (i : Nat) : Int × ByteArray := l.getD i (0, noB)
/-- a slice of asks: its cells. -/
def SlA (w : World) (q : Option Addr) (l : List (Int × ByteArray)) : Prop :=
  l = [] ∨ ∃ b off, q = some ⟨b, off, none⟩ ∧ ∀ i, i < l.length → w.cell? ⟨b, off + i * 2, none⟩ = some (.int .i64 (ga l i).1) ∧ w.cell? ⟨b, off + i * 2 + 1, none⟩ = some (.string (ga l i).2)
theorem SlA.at {w : World} {q : Option Addr} {l : List (Int × ByteArray)} {i : Nat} (h : SlA w q l) (hi : i < l.length) :
    ∃ b off, q = some ⟨b, off, none⟩ ∧ ∀ W, Below w.heap.size w W → W.cell? ⟨b, off + i * 2, none⟩ = some (.int .i64 (ga l i).1) ∧ W.cell? ⟨b, off + i * 2 + 1, none⟩ = some (.string (ga l i).2) := by
  rcases h with h | ⟨b, off, rfl, hc⟩
  · subst h; simp at hi
  · obtain ⟨h1, h2⟩ := hc i hi
    exact ⟨b, off, rfl, fun W hb => ⟨by rw [hb.cell (World.block_lt_of_cell? w _ h1)]; exact h1, by rw [hb.cell (World.block_lt_of_cell? w _ h2)]; exact h2⟩⟩
theorem sli_drop {w : World} {b off : Nat} {l : List Int} (h : ∀ i, i < l.length → w.cell? ⟨b, off + i, none⟩ = some (.int .i64 (gi l i))) (k : Nat) : SlI w (some ⟨b, off + k, none⟩) (l.drop k) := by
  refine .inr ⟨b, off + k, rfl, fun i hi => ?_⟩
  rw [List.length_drop] at hi
  rw [drop_gi, Nat.add_assoc]
  exact h (k + i) (by omega)
theorem keep_cell2 {w W : World} (hb : Below w.heap.size w W) {a : Addr} {v : Value} (h : w.cell? a = some v) : W.cell? a = some v := by
  rw [hb.cell (World.block_lt_of_cell? w _ h)]; exact h
theorem slice_from (q : Option Addr) (l : List Int) (c k n : Nat) (w : World) (hs : SlI w q l) (hn : n = l.length) (hk : k ≤ n) (hc : n ≤ c) (hm : c ≤ 9223372036854775807) (hq : q = none → c = 0) :
    ∃ q8 c8, (∀ x : World, (Instr.sliceAt 22 (.slice q n c) (some (.int .i64 (k : Nat))) none none).run Try.prog x = .ok (.slice q8 (l.drop k).length c8) x) ∧ (q8 = none → c8 = 0) ∧ SlI w q8 (l.drop k) := by
  have hl : (l.drop k).length = n - k := by rw [List.length_drop, hn]
  rw [hl]
  have hkI : (k : Int) ≤ n := by omega
  have hcI : (n : Int) ≤ c := by omega
  have hmI : (c : Int) ≤ 9223372036854775807 := by omega
  have hkcI : (k : Int) ≤ c := by omega
  by_cases hck : c = k
  · have hkn : n = k := by omega
    subst hkn
    have hd : l.drop n = [] := List.drop_eq_nil_of_le (by omega)
    refine ⟨q, 0, fun x => ?_, fun _ => rfl, .inl hd⟩
    subst hck
    clear hs hq hl hd hn
    go_simp
  · cases q with
    | none => exact absurd (hq rfl) (by omega)
    | some a =>
      refine ⟨some (a.add k), c - k, fun x => ?_, (by intro h; cases h), ?_⟩
      · have hnk : ¬ n < k := by omega
        clear hs hq hl hn
        go_simp
      · rcases hs with h | ⟨b, off, h, hcell⟩
        · left; rw [h]; simp
        · cases h
          have := sli_drop hcell k
          rw [Go.WideShapes.add_plain]; exact this
theorem TP.below {w0 w w' : World} {B b : Nat} {l : List Int} {k : Nat} {a : Int × Int × ByteArray × Bool × Nat} {e : Ending} (h : AP w B b l k a e w') (hb : Below w0.heap.size w0 w) (hB : w0.heap.size ≤ b) : Below w0.heap.size w0 w' :=
  hb.trans (grown_below h.2.2 hB hb.size)

set_option maxHeartbeats 6400000 in
set_option maxRecDepth 100000 in
theorem tail_true (q : Option Addr) (l : List Int) (c : Nat) (qa : Option Addr) (asks : List (Int × ByteArray)) (ca : Nat) (w : World) (hs : SlI w q l) (hq : q = none → c = 0) (hlc : l.length ≤ c) (hcm : c ≤ 9223372036854775807)
    (ha : SlA w qa asks) (hal : asks.length ≤ ca) (ham : ca ≤ 9223372036854775807) (hst : ∀ i, i < asks.length → (ga asks i).2.size ≤ 9223372036854775807) :
    Calls Try.prog 6 #[.slice q l.length c, .slice qa asks.length ca] w fun e w' => e = .returned (.bool true) ∧ Below w.heap.size w w' := by
  obtain ⟨n, hn⟩ : ∃ n, n = l.length := ⟨_, rfl⟩
  obtain ⟨na, hna⟩ : ∃ n, n = asks.length := ⟨_, rfl⟩
  rw [← hn] at hlc ⊢
  rw [← hna] at hal hst ⊢
  have hnI : (n : Int) ≤ 9223372036854775807 := by omega
  have hnaI : (na : Int) ≤ 9223372036854775807 := by omega
  have hlcI : (n : Int) ≤ (c : Int) := by omega
  have hcmI : (c : Int) ≤ 9223372036854775807 := by omega
  have hlaI : (na : Int) ≤ (ca : Int) := by omega
  have hamI : (ca : Int) ≤ 9223372036854775807 := by omega
  have HSL := Lib.hid hs
  have HQ := Lib.hid hq
  have HA := Lib.hid ha
  have HST := Lib.hid hst
  have HN := Lib.hid hn
  have HNA := Lib.hid hna
  have HLC := Lib.hid hlc
  have HLC2 := Lib.hid hcm
  clear hs hq ha hst hn hna hal ham hlc hcm
  by_cases hl : 300 < n
  · have hlI : (300 : Int) < n := by omega
    clear hl
    go_enter Try.func6, Try.ntmps6
    go_wp2_with fail
    refine (awake_true _).mono ?_
    rintro e w1 ⟨rfl, hb⟩
    go_wp2
    go_ret
    exact ⟨rfl, hb⟩
  have hlI : (n : Int) ≤ 300 := by omega
  by_cases hla : 300 < na
  · have hlaJ : (300 : Int) < na := by omega
    clear hl hla
    go_enter Try.func6, Try.ntmps6
    go_wp2_with fail
    refine (awake_true _).mono ?_
    rintro e w1 ⟨rfl, hb⟩
    go_wp2
    go_ret
    exact ⟨rfl, hb⟩
  have hlaJ : (na : Int) ≤ 300 := by omega
  have HL3 := Lib.hid (show n ≤ 300 by omega)
  clear hl hla
  go_enter Try.func6, Try.ntmps6
  go_wp2_with fail
  refine (awake_true _).mono ?_
  rintro e w1 ⟨rfl, hb⟩
  have HB1 := Lib.hid hb
  have HNEW : Hid (Calls Try.prog 10 #[.slice q n c] w1 (ObjPost l 0 w1)) := by
    have := new_any q l c w1 (HSL.out.below hb) HQ.out (by rw [← HN.out]; have := HL3.out; omega)
    rw [← HN.out] at this
    exact this
  clear hb
  go_wp2_with fail
  refine HNEW.out.mono ?_
  rintro e w2 ⟨b, rfl, hc2, hb2⟩
  have HB2 : Hid (Below w.heap.size w w2) := bl_trans HB1.out (hb2.mono (Nat.le_refl _))
  have HC2 : Hid (Sc w2 w.heap.size b l 0) := Cu.down hc2 HB1.out.size
  have HBb : Hid (w.heap.size ≤ b) := HC2.out.le.1
  clear hc2 hb2 HNEW HB1
  go_wp2
  go_loopw [6] (fun iv wr => ∃ (i k : Nat), i ≤ na ∧ iv = .int .i64 (i : Nat) ∧ Hid (k ≤ n) ∧ Hid (Sc wr w.heap.size b l k) ∧ Hid (Below w.heap.size w wr)) (fun iv _ => na - (intOf iv).toNat)
  case atStart => exact ⟨0, 0, Nat.zero_le _, rfl, Nat.zero_le _, HC2, HB2⟩
  case round =>
    obtain ⟨i, k, hi, rfl, HK, HS, HB⟩ := hrel
    rename World => wr
    clear HC2 HB2
    by_cases hin : i < na
    · have hinI : (i : Int) < na := by omega
      obtain ⟨ba, oa, rfl, hac⟩ := HA.out.at (show i < asks.length by rw [← HNA.out]; exact hin)
      have hts := HST.out i hin
      generalize (ga asks i).1 = y at hac
      generalize (ga asks i).2 = t at hac hts
      have HAC := Lib.hid hac
      obtain ⟨hy, ht⟩ := hac wr HB.out
      clear hac
      have htI : (t.size : Int) ≤ 9223372036854775807 := by omega
      by_cases htl : 300 < t.size
      · have htlI : (300 : Int) < t.size := by omega
        have HBr := Lib.hid HB.out
        clear htl hts HS HB HK hin
        go_wp2
        go_ret
        exact ⟨rfl, HBr.out⟩
      · have htlI : (t.size : Int) ≤ 300 := by omega
        have HTS := Lib.hid (show t.size ≤ 1000000 by omega)
        have HIN := Lib.hid hin
        clear htl hts hin
        have hkI : (k : Int) ≤ n := by have := HK.out; omega
        obtain ⟨D, hD⟩ : ∃ D, D = decide (k = n) := ⟨_, rfl⟩
        have hkD : ((k : Int) == (n : Int)) = D := by
          rw [hD]
          by_cases e : k = n
          · subst e; simp
          · rw [decide_eq_false e]; rw [beq_eq_false_iff_ne]; omega
        have HAT := Lib.hid (At_scan w.heap.size b l k wr HS.out)
        have HDN : Hid (Calls Try.prog 21 #[.pointer (some ⟨b, 0, none⟩)] wr (CP wr w.heap.size b 48 [.pointer (some ⟨b, 0, none⟩)] l (.bool D) k)) :=
          Done_scan w.heap.size b l k D k _ HS.out ((done_any w.heap.size b _ _ l k _ HS.out).mono (by
            rintro e w6 ⟨rfl, n6, rfl⟩
            exact ⟨by rw [hD, HN.out], Cu.drewN HS.out n6, grown_drewN _ n6 _⟩))
        clear hD
        go_wp2_with fail
        refine HAT.out.mono ?_
        rintro e w3 ⟨rfl, rfl⟩
        go_wp2_with (go_at_call 21; refine HDN.out.mono ?_; rintro e w4 ⟨rfl, hc4, hg4⟩; have HC4 : Hid (Sc w4 w.heap.size b l k) := hc4; have HB4 : Hid (Below w.heap.size w w4) := HB.out.trans (grown_below hg4 HBb.out HB.out.size); clear hc4 hg4; obtain ⟨hy4, ht4⟩ := HAC.out w4 HB4.out)
        clear HS HB hy ht HAT HDN hkD
        refine (pick8 y _).mono ?_
        rintro e w5 ⟨rfl, rfl⟩
        have HASK : Hid (∀ (W : World) (b2 : Nat) (L : List Int) (j : Nat), Sc W w.heap.size b2 L j → Calls Try.prog 16 #[.pointer (some ⟨b2, 0, none⟩), .agg #[.int .i64 y, .string t]] W (AP W w.heap.size b2 L j (askR (pk y) t.data.toList (L.drop j)))) := fun W b2 L j hW => tells_any w.heap.size b2 L j y t W hW HTS.out
        have hz8 : ((pk y : Nat) : Int) ≤ 8 := by have := pk_lt y; omega
        generalize pk y = z at *
        by_cases h7 : z = 7
        · have h7b : ((z : Int) == 7) = true := by rw [h7]; rfl
          clear h7 hz8 HASK
          go_wp2
          go_roundw
          case rel => exact ⟨i + 1, k, by have := HIN.out; omega, by rfl, HK, HC4, HB4⟩
          case measure => have := HIN.out; simp only [intOf]; omega
        · have h7b : ((z : Int) == 7) = false := by rw [beq_eq_false_iff_ne]; omega
          clear h7
          obtain ⟨q8, c8, hsl, h8n, hs8⟩ := slice_from q l c k n w HSL.out HN.out HK.out HLC.out HLC2.out HQ.out
          have HA1 : Hid (∀ W, Sc W w.heap.size b l k → Calls Try.prog 16 #[.pointer (some ⟨b, 0, none⟩), .agg #[.int .i64 y, .string t]] W (AP W w.heap.size b l k (askR z t.data.toList (l.drop k)))) := fun W hW => HASK.out W b l k hW
          have HA2 : Hid (∀ W b2, Sc W w.heap.size b2 (l.drop k) 0 → Calls Try.prog 16 #[.pointer (some ⟨b2, 0, none⟩), .agg #[.int .i64 y, .string t]] W (AP W w.heap.size b2 (l.drop k) 0 (askR z t.data.toList (l.drop k)))) := fun W b2 hW => HASK.out W b2 (l.drop k) 0 hW
          have HSTILL := Lib.hid (ask_still z t.data.toList (l.drop k))
          generalize askR z t.data.toList (l.drop k) = A at HA1 HA2 HSTILL
          have HSLI := Lib.hid hsl
          have HNW : Hid (∀ W, Below w.heap.size w W → Calls Try.prog 10 #[.slice q8 (l.drop k).length c8] W (ObjPost (l.drop k) 0 W)) := fun W hW => new_any q8 (l.drop k) c8 W (hs8.below hW) h8n (by rw [List.length_drop]; have := HN.out; have := HL3.out; omega)
          have hixs : ∀ x : World, (Instr.indexAt 23 (.slice (some ⟨ba, oa, none⟩) na ca) (.int .i64 (i : Nat))).run Try.prog x = .ok (.pointer (some ⟨ba, oa + i * 2, none⟩)) x := fun x => by go_simp
          have HIX := Lib.hid hixs
          clear hsl h8n hs8 HASK hz8 hy4 ht4 hixs
          go_wp2
          refine r15_wp A A rfl rfl rfl rfl rfl rfl HAC.out HC4.out HB4.out HA1.out HA2.out HIX.out HSLI.out HNW.out ?_ 15
          intro u n1 n2 x hne z1 z2 t1 t2 hS hB
          have HAD : Hid (k + A.2.2.2.2 ≤ n) := by have := hS.le.2.1; have := HN.out; show _ ≤ _; omega
          have hdd : decide (0 + A.2.2.2.2 = (l.drop k).length) = decide (k + A.2.2.2.2 = l.length) := by
            rw [List.length_drop]
            have h1 := HK.out
            have h2 := HN.out
            have h3 := HAD.out
            by_cases e : k + A.2.2.2.2 = l.length
            · rw [decide_eq_true e, decide_eq_true (by omega)]
            · rw [decide_eq_false e, decide_eq_false (by omega)]
          rw [hdd] at t2
          generalize decide (k + A.2.2.2.2 = l.length) = D1 at t1 t2
          obtain ⟨an, am, ab, ao, j⟩ := A
          simp only at t1 t2 hS HSTILL HAD
          have hj1 : ((k + j : Nat) : Int) = (j : Int) + k := by omega
          have hj2 : ((0 + j : Nat) : Int) = (j : Int) := by omega
          rw [hj1] at t1
          rw [hj2] at t2
          have hjn : (j : Int) ≤ 300 := by have := HAD.out; omega
          have hkk : (k : Int) ≤ 300 := by omega
          have HSx := Lib.hid hS
          have HBx := Lib.hid hB
          have HT1 := Lib.hid t1
          have HT2 := Lib.hid t2
          have HNE := Lib.hid hne
          have HZ1 := Lib.hid z1
          have HZ2 := Lib.hid z2
          obtain ⟨p0, p1, p2, p3, p4, p5⟩ := t1.cells
          obtain ⟨q0, q1, q2, q3, q4, q5⟩ := t2.cells
          have f2 := t2.frz 2
          have hne2 : ¬ n2 = n1 := fun e => hne e.symm
          have hneq : ∀ W : World, (binOp .neq 37 (.agg (tvl an am ((j : Int) + k) ab ao D1)) (.agg (tvl an am ((j : Int) + k) ab ao D1))).run Try.prog W = .ok (.bool false) W := fun W => told_neq _ _ _ _ _ _ W
          unfold tvl at hneq
          clear hdd hj1 hj2 t1 t2 hS hB z1 z2 HA1 HA2 HSLI HNW HIX HC4 HB4
          have HBY := Lib.hid (HBx.out.trans (grown_below (grown_set x ⟨n2, 2, none⟩ (.int .i64 ((j : Int) + k))) HZ2.out HBx.out.size))
          have HSY := Lib.hid (HSx.out.tb HT2.out 2 (.int .i64 ((j : Int) + k)))
          have HKJ : Hid (k + j ≤ n) := HAD
          simp only [putL, List.foldl, Act.put, List.setIfInBounds_toArray, List.set_cons_zero, List.set_cons_succ]
          cases ao with
          | true =>
            clear HSTILL
            go_wp2
            go_roundw
            case rel => exact ⟨i + 1, k + j, by have := HIN.out; omega, by rfl, HKJ, HSY, HBY⟩
            case measure => have := HIN.out; simp only [intOf]; omega
          | false =>
            by_cases ham0 : am = 0
            · have hj0 := HSTILL.out rfl ham0
              subst ham0
              subst hj0
              clear HSTILL
              go_wp2
              go_roundw
              case rel =>
                have h1 := HSY.out
                have h2 := HBY.out
                simp only [Int.natCast_zero, Int.zero_add, Nat.add_zero, Int.cast_ofNat_Int] at h1 h2
                exact ⟨i + 1, k, by have := HIN.out; omega, by rfl, HK, h1, h2⟩
              case measure => have := HIN.out; simp only [intOf]; omega
            · have hamb : (am == 0) = false := by rw [beq_eq_false_iff_ne]; exact ham0
              clear HSTILL ham0
              go_wp2
              go_roundw
              case rel => exact ⟨i + 1, k + j, by have := HIN.out; omega, by rfl, HKJ, HSY, HBY⟩
              case measure => have := HIN.out; simp only [intOf]; omega
    · have hinI : (na : Int) ≤ i := by omega
      have hkI : (k : Int) ≤ n := by have := HK.out; omega
      have HAT := Lib.hid (At_scan w.heap.size b l k wr HS.out)
      clear hin hi
      go_wp2_with fail
      refine HAT.out.mono ?_
      rintro e w3 ⟨rfl, rfl⟩
      go_wp2
      go_loopw [11] (fun iv wr => ∃ (j : Nat), Hid (j ≤ n) ∧ iv = .int .i64 (j : Nat) ∧ Hid (Sc wr w.heap.size b l j) ∧ Hid (Below w.heap.size w wr)) (fun iv _ => n - (intOf iv).toNat)
      case atStart => exact ⟨k, HK, rfl, HS, HB⟩
      case round =>
        clear HS HB HAT
        obtain ⟨j, HJ, rfl, HS, HB⟩ := hrel
        rename World => wr
        by_cases hjn : j < n
        · have hjI : (j : Int) < n := by omega
          obtain ⟨bl, ol, rfl, hcell⟩ : ∃ bl ol, q = some ⟨bl, ol, none⟩ ∧ ∀ i, i < l.length → w.cell? ⟨bl, ol + i, none⟩ = some (.int .i64 (gi l i)) := by
            rcases HSL.out with h | ⟨bl, ol, h1, h2⟩
            · have := HN.out; rw [h] at this; simp at this; omega
            · exact ⟨bl, ol, h1, h2⟩
          have hjl : j < l.length := by rw [← HN.out]; exact hjn
          have hcj := hcell j hjl
          have HCJ := Lib.hid hcj
          have HNX : Hid (Calls Try.prog 22 #[.pointer (some ⟨b, 0, none⟩)] wr (CP wr w.heap.size b 48 [.pointer (some ⟨b, 0, none⟩)] l (.tuple #[.int .i64 (gi l j), .bool true]) (j + 1))) :=
            Next_scan w.heap.size b l j _ true (j + 1) wr HS.out (by
              have := next_any w.heap.size b _ _ l j wr HS.out
              rw [if_pos hjl, decide_eq_true hjl, show hdR l j = gi l j by unfold hdR; rw [if_pos hjl]] at this
              exact this)
          generalize gi l j = g at HCJ HNX
          have HJN := Lib.hid hjn
          have hj3 : (j : Int) ≤ 300 := by omega
          clear hcell hcj hjl hjn
          go_wp2_with fail
          refine HNX.out.mono ?_
          rintro e w4 ⟨rfl, hc4, hg4⟩
          have HB4 : Hid (Below w.heap.size w w4) := HB.out.trans (grown_below hg4 HBb.out HB.out.size)
          have hcj4 := keep_cell2 HB4.out HCJ.out
          have HAT4 := Lib.hid (At_scan w.heap.size b l (j + 1) w4 hc4)
          have HC4 : Hid (Sc w4 w.heap.size b l (j + 1)) := hc4
          clear hc4 hg4 HS HB HNX
          go_wp2_with (go_at_call 19; refine HAT4.out.mono ?_; rintro e w5 ⟨rfl, rfl⟩)
          go_roundw
          case rel => exact ⟨j + 1, by have := HJN.out; show _ ≤ _; omega, by rfl, HC4, HB4⟩
          case measure => have := HJN.out; simp only [intOf]; omega
        · have hjn2 : j = n := by have := HJ.out; omega
          have hjI : (n : Int) ≤ j := by omega
          have hjl : ¬ j < l.length := by rw [← HN.out]; exact hjn
          have HNX : Hid (Calls Try.prog 22 #[.pointer (some ⟨b, 0, none⟩)] wr (CP wr w.heap.size b 48 [.pointer (some ⟨b, 0, none⟩)] l (.tuple #[.int .i64 0, .bool false]) j)) :=
            Next_scan w.heap.size b l j _ false j wr HS.out (by
              have := next_any w.heap.size b _ _ l j wr HS.out
              rw [if_neg hjl, decide_eq_false hjl, show hdR l j = 0 by unfold hdR; rw [if_neg hjl]] at this
              exact this)
          have HJL : Hid (j = l.length) := by show _ = _; rw [← HN.out]; exact hjn2
          clear hjn hjn2 hjl
          go_wp2_with fail
          refine HNX.out.mono ?_
          rintro e w4 ⟨rfl, hc4, hg4⟩
          have HB4 : Hid (Below w.heap.size w w4) := HB.out.trans (grown_below hg4 HBb.out HB.out.size)
          have HC4 : Hid (Sc w4 w.heap.size b l j) := hc4
          have HDN4 : Hid (Calls Try.prog 21 #[.pointer (some ⟨b, 0, none⟩)] w4 (CP w4 w.heap.size b 48 [.pointer (some ⟨b, 0, none⟩)] l (.bool true) j)) :=
            Done_scan w.heap.size b l j true j _ HC4.out ((done_any w.heap.size b _ _ l j _ HC4.out).mono (by
              rintro e w6 ⟨rfl, n6, rfl⟩
              exact ⟨by rw [decide_eq_true HJL.out], Cu.drewN HC4.out n6, grown_drewN _ n6 _⟩))
          clear hc4 hg4 HS HB HNX
          go_wp2_with (go_at_call 21; refine HDN4.out.mono ?_; rintro e w5 ⟨rfl, hc5, hg5⟩; have HB5 : Hid (Below w.heap.size w w5) := HB4.out.trans (grown_below hg5 HBb.out HB4.out.size); clear hc5 hg5)
          go_ret
          exact ⟨rfl, HB5.out⟩
end Go.Proofs.Ytkpkhjflelmdjaa
