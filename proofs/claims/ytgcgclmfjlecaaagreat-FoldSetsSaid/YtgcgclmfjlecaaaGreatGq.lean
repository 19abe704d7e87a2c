/- Plain: texts in their order: what strings.Compare tells, and what '<=' tells of them. -/
/- fold's search of a prop by its name; the set of it. -/
/- fold's prop: the set of a name. -/
/- fold.Canon: folds looked up before it is known that they are right. -/
import Derived.Test.YtgcgclmfjlecaaaGreatGk
import Derived.Lib.Bytealg
import Derived.Sort.Walk0

namespace Go.Proofs.YtgcgclmfjlecaaaGreat
open Go.RowKit Tnr

theorem cmpB : ∀ (a b : List UInt8), (Lib.compareBytes a b = -1 ∧ a < b) ∨ (Lib.compareBytes a b = 0 ∧ a = b) ∨ (Lib.compareBytes a b = 1 ∧ b < a)
  | [], [] => .inr (.inl ⟨rfl, rfl⟩)
  | [], y :: b => .inl ⟨rfl, by simp⟩
  | x :: a, [] => .inr (.inr ⟨rfl, by simp⟩)
  | x :: a, y :: b => by
    unfold Lib.compareBytes
    by_cases h1 : x < y
    · left; rw [if_pos h1]; exact ⟨rfl, List.Lex.rel h1⟩
    · by_cases h2 : y < x
      · right; right; rw [if_neg h1, if_pos h2]; exact ⟨rfl, List.Lex.rel h2⟩
      · have e : x = y := by
          have h3 : ¬ x.toNat < y.toNat := h1
          have h4 : ¬ y.toNat < x.toNat := h2
          exact UInt8.toNat_inj.1 (by omega)
        subst e
        rw [if_neg h1, if_neg h2]
        rcases cmpB a b with ⟨g1, g2⟩ | ⟨g1, g2⟩ | ⟨g1, g2⟩
        · left; exact ⟨g1, List.Lex.cons g2⟩
        · right; left; exact ⟨g1, by rw [g2]⟩
        · right; right; exact ⟨g1, List.Lex.cons g2⟩
theorem lt_tr {a b c : List UInt8} (h1 : a < b) (h2 : b < c) : a < c := List.lt_trans h1 h2
theorem lt_ir (a : List UInt8) : ¬ a < a := List.lt_irrefl a
theorem toList_data (s : ByteArray) : s.toList = s.data.toList := Go.ByteArray.toList_eq s
theorem leB_iff (a b : ByteArray) : leB a b = false ↔ b.data.toList < a.data.toList := by
  unfold leB
  rw [bytesLess_eq, toList_data, toList_data]
  rcases cmpB a.data.toList b.data.toList with ⟨_, g⟩ | ⟨_, g⟩ | ⟨_, g⟩
  · rw [decide_eq_true g]
    constructor
    · intro h; simp at h
    · intro h; exact absurd (lt_tr g h) (lt_ir _)
  · rw [g]
    constructor
    · intro h; simp at h
    · intro h; exact absurd h (lt_ir _)
  · constructor
    · intro _; exact g
    · intro _
      have n1 : ¬ a.data.toList < b.data.toList := fun h => lt_ir _ (lt_tr g h)
      have n2 : a.data.toList ≠ b.data.toList := fun h => lt_ir _ (h ▸ g)
      rw [decide_eq_false n1]
      simpa using n2
end Go.Proofs.YtgcgclmfjlecaaaGreat


namespace Go.Proofs.YtgcgclmfjlecaaaGreat
open Go.RowKit Tnr

def nm (xs : List PV) (i : Nat) : List UInt8 := (gp xs i).1.data.toList
/-- props that rise by their names. -/
def RiseP (xs : List PV) : Prop := ∀ i j, i < j → j < xs.length → nm xs i < nm xs j
def AtP (xs : List PV) (z : List UInt8) (k : Nat) : Prop := k ≤ xs.length ∧ (∀ i, i < k → nm xs i < z) ∧ ∀ i, k ≤ i → i < xs.length → ¬ nm xs i < z
end Go.Proofs.YtgcgclmfjlecaaaGreat


namespace Go.Proofs.YtgcgclmfjlecaaaGreat
open Go.RowKit Tnr

theorem rise_PR {xs : List PV} (h : PR xs) : RiseP xs := by
  intro i j hij hj
  induction j with
  | zero => omega
  | succ j ih =>
    have h1 := (leB_iff _ _).1 ((h (j + 1) hj).2.1 (by omega))
    rw [show j + 1 - 1 = j by omega] at h1
    by_cases e : i = j
    · subst e; exact h1
    · exact lt_tr (ih (by omega) (by omega)) h1
theorem atP_no {xs : List PV} {z : List UInt8} {k : Nat} (hr : RiseP xs) (h : AtP xs z k) (hn : ¬ (k < xs.length ∧ nm xs k = z)) : ∀ i, i < xs.length → nm xs i ≠ z := by
  intro i hi e
  obtain ⟨_, a2, a3⟩ := h
  by_cases hik : i < k
  · have := a2 i hik; rw [e] at this; exact lt_ir _ this
  · by_cases e2 : i = k
    · subst e2; exact hn ⟨hi, e⟩
    · have h1 := hr k i (by omega) hi
      rw [e] at h1
      exact a3 k (Nat.le_refl _) (by omega) h1
end Go.Proofs.YtgcgclmfjlecaaaGreat


namespace Go.Proofs.YtgcgclmfjlecaaaGreat
open Go.RowKit Tnr

set_option maxHeartbeats 1600000 in
set_option maxRecDepth 100000 in
theorem fsearch_free (p : Option Addr) (c n : Nat) (d : List R) (z : Int) (w : World) (hn : n = d.length) (hp : SlR w p d) (hl : n ≤ 10000000000000) :
    Calls Tryz.prog 62 #[.slice p n c, .int .i64 z, .func (.func 63) #[] #[]] w fun e w' => ∃ k : Nat, e = .returned (.tuple #[.int .i64 (k : Nat), .bool (decide (k < n ∧ (gr d k).1 = z))]) ∧ k ≤ d.length ∧ Below w.heap.size w w' := by
  have HP := Lib.hid hp
  have HN := Lib.hid hn
  have hlI : (n : Int) ≤ 10000000000000 := by omega
  have HM := Lib.hid fcmp_any
  clear hp hn hl
  go_enter Tryz.func62, Tryz.ntmps62
  go_wp2
  go_loopw [9, 10] (fun iv jv wr => ∃ i j : Nat, i ≤ j ∧ j ≤ n ∧ iv = .int .i64 (i : Nat) ∧ jv = .int .i64 (j : Nat) ∧ Hid (Below w.heap.size w wr)) (fun iv jv _ => (intOf jv).toNat - (intOf iv).toNat)
  case atStart => exact ⟨0, n, Nat.zero_le _, Nat.le_refl _, rfl, rfl, Below.refl _ _⟩
  case round =>
    obtain ⟨i, j, hij, hj, rfl, rfl, HB⟩ := hrel
    rename World => wr
    by_cases hlt : i < j
    · have hltI : (i : Int) < j := by omega
      have hjI : (j : Int) ≤ n := by omega
      have hh1 : i ≤ (i + j) / 2 := by omega
      have hh2 : (i + j) / 2 < j := by omega
      obtain ⟨b, o, rfl, hc0, hc1⟩ := slr_at (HP.out.below HB.out) (show (i + j) / 2 < d.length by have := HN.out; omega)
      obtain ⟨x, hx⟩ : ∃ x, x = (gr d ((i + j) / 2)).1 := ⟨_, rfl⟩
      obtain ⟨y, hy⟩ : ∃ y, y = (gr d ((i + j) / 2)).2 := ⟨_, rfl⟩
      rw [← hx] at hc0
      rw [← hy] at hc1
      have HY : Hid (x = (gr d ((i + j) / 2)).1) := hx
      clear hx hy
      go_wp2_with fail
      refine (HM.out x y z wr).mono ?_
      rintro e w2 ⟨rfl, hb2⟩
      have HB2 := Lib.hid (bl_trans HB.out hb2)
      clear hb2 hc0 hc1
      by_cases hyz : x < z
      · have e1 : cmpI x z = -1 := by unfold cmpI; rw [if_pos hyz]
        rw [e1]
        clear e1 hyz
        go_wp2
        go_roundw
        case rel => exact ⟨(i + j) / 2 + 1, j, by omega, hj, by go_num, rfl, HB2.out⟩
        case measure => simp [intOf]; omega
      · have hc : 0 ≤ cmpI x z := by unfold cmpI; rw [if_neg hyz]; split <;> omega
        obtain ⟨q, hq⟩ : ∃ q, q = cmpI x z := ⟨_, rfl⟩
        rw [← hq] at hc ⊢
        clear hyz hq
        go_wp2
        go_roundw
        case rel => exact ⟨i, (i + j) / 2, hh1, by omega, rfl, by go_num, HB2.out⟩
        case measure => simp [intOf]; omega
    · have hji : j = i := by omega
      subst hji
      have HAT : Hid (j ≤ d.length) := by have := HN.out; show _ ≤ _; omega
      by_cases hjn : j < n
      · have hjI : (j : Int) < n := by omega
        obtain ⟨b, o, rfl, hc0, hc1⟩ := slr_at (HP.out.below HB.out) (show j < d.length by have := HN.out; omega)
        obtain ⟨x, hx⟩ : ∃ x, x = (gr d j).1 := ⟨_, rfl⟩
        obtain ⟨y, hy⟩ : ∃ y, y = (gr d j).2 := ⟨_, rfl⟩
        rw [← hx] at hc0
        rw [← hy] at hc1
        have HY : Hid (x = (gr d j).1) := hx
        clear hx hy hlt
        go_wp2_with fail
        refine (HM.out x y z wr).mono ?_
        rintro e w2 ⟨rfl, hb2⟩
        have HB2 := Lib.hid (bl_trans HB.out hb2)
        clear hb2 hc0 hc1
        obtain ⟨q, hq⟩ : ∃ q, q = cmpI x z := ⟨_, rfl⟩
        have HE : Hid ((q == 0) = decide (j < n ∧ (gr d j).1 = z)) := by
          show _ = _
          rw [← HY.out, hq]
          have hjn2 : j < n := by omega
          by_cases e : x = z
          · rw [decide_eq_true (show j < n ∧ x = z from ⟨hjn2, e⟩)]; unfold cmpI; rw [if_neg (by omega), if_neg (by omega)]; rfl
          · rw [decide_eq_false (fun h => e h.2)]; unfold cmpI; split
            · rfl
            · rw [if_pos (by omega)]; rfl
        rw [← hq]
        clear hq
        go_wp2
        refine bodyPost_ret (v := .tuple #[.int .i64 (j : Nat), .bool (q == 0)]) (by simp [results, Tryz.f62, go_sem]) rfl ⟨j, by rw [← HE.out], HAT.out, HB2.out⟩
      · have hjI : (n : Int) ≤ j := by omega
        have HE : Hid (decide (j < n ∧ (gr d j).1 = z) = false) := decide_eq_false (fun h => hjn h.1)
        clear hlt
        go_wp2
        refine bodyPost_ret (v := .tuple #[.int .i64 (j : Nat), .bool false]) (by simp [results, Tryz.f62, go_sem]) rfl ⟨j, by rw [HE.out], HAT.out, HB.out⟩


set_option maxHeartbeats 1600000 in
set_option maxRecDepth 100000 in
/-- whatever the order: it tells something; what is looked for, when they are in order. -/
theorem ffold_free (pf pp : Option Addr) (cf cp n m : Nat) (F : List R) (c : Int) (w : World) (hn : n = F.length) (hp : SlR w pf F) (hl : n ≤ 10000000000000) :
    Calls Tryz.prog 31 #[.agg #[.slice pf n cf, .slice pp m cp], .int .i64 c] w fun e w' => (∃ (t : Int) (b : Bool), e = .returned (.tuple #[.int .i64 t, .bool b]) ∧ (Rise F → t = (look F c).getD 0 ∧ b = (look F c).isSome)) ∧ Below w.heap.size w w' := by
  by_cases hs : Rise F
  · refine (ffold_any pf pp cf cp n m F c w hn hp hs hl).mono ?_
    rintro e w' ⟨h1, h2⟩
    exact ⟨⟨_, _, h1, fun _ => ⟨rfl, rfl⟩⟩, h2⟩
  have hb1 : Below w.heap.size w (w.alloc (.cells #[.slice pf n cf, .slice pp m cp] 75)) := bl_alloc _ _
  have hbx : (w.alloc (.cells #[.slice pf n cf, .slice pp m cp] 75)).cell? ⟨w.heap.size, 0, none⟩ = some (.slice pf n cf) := by rw [World.cell?_alloc_at _ _ _ _ rfl]; rfl
  have HBX := Lib.hid hbx
  have HSR := Lib.hid (fsearch_free pf cf n F c (w.alloc (.cells #[.slice pf n cf, .slice pp m cp] 75)) hn (hp.below hb1) hl)
  have HP := Lib.hid (hp.below hb1)
  have HN := Lib.hid hn
  have HS : Hid (¬ Rise F) := hs
  have HB1 := Lib.hid hb1
  have hnI : (n : Int) ≤ 10000000000000 := by omega
  clear hn hp hs hl hb1 hbx
  go_enter Tryz.func31, Tryz.ntmps31
  go_wp2_with fail
  refine HSR.out.mono ?_
  rintro e w2 ⟨k, rfl, hat, hb2⟩
  have HB2 := Lib.hid (bl_trans HB1.out hb2)
  have hbx2 : w2.cell? ⟨w.heap.size, 0, none⟩ = some (.slice pf n cf) := by rw [hb2.cell (World.block_lt_of_cell? _ _ HBX.out)]; exact HBX.out
  have HP2 := Lib.hid (HP.out.below hb2)
  clear hat hb2 HSR HP HBX HB1
  by_cases hk : k < n ∧ (gr F k).1 = c
  · have hkI : (k : Int) < n := by omega
    have hD : decide (k < n ∧ (gr F k).1 = c) = true := decide_eq_true hk
    obtain ⟨b, o, rfl, hc1, hc2⟩ := slr_at HP2.out (show k < F.length by rw [← HN.out]; exact hk.1)
    obtain ⟨t, ht⟩ : ∃ x, x = (gr F k).2 := ⟨_, rfl⟩
    rw [← ht] at hc2
    rw [hD]
    clear hD hk ht hc1
    go_wp2
    refine bodyPost_ret (v := .tuple #[.int .i64 t, .bool true]) (by simp [results, Tryz.f31, go_sem]) rfl ⟨⟨_, _, rfl, fun h => absurd h HS.out⟩, HB2.out⟩
  · have hD : decide (k < n ∧ (gr F k).1 = c) = false := decide_eq_false hk
    rw [hD]
    clear hD hk
    go_wp2
    refine bodyPost_ret (v := .tuple #[.int .i64 0, .bool false]) (by simp [results, Tryz.f31, go_sem]) rfl ⟨⟨_, _, rfl, fun h => absurd h HS.out⟩, HB2.out⟩
open Classical in
/-- the number that stands for all that are alike. -/
noncomputable def canonF (F : List R) (xs : List PV) (c : Int) : Int := if TR F xs then (look F c).getD c else c
set_option maxHeartbeats 1600000 in
set_option maxRecDepth 100000 in
theorem fcanon_any (HPO : PropsOk) (pf pp : Option Addr) (cf cp n m : Nat) (F : List R) (xs : List PV) (c : Int) (w : World) (h : Tab w pf n pp m F xs) :
    Calls Tryz.prog 20 #[.agg #[.slice pf n cf, .slice pp m cp], .int .i64 c] w fun e w' => e = .returned (.int .i64 (canonF F xs c)) ∧ Below w.heap.size w w' := by
  obtain ⟨W0, hW0⟩ : ∃ W, W = (w.alloc (.cells #[.slice pf n cf, .slice pp m cp] 25)).alloc (.cells #[.slice pf n cf, .slice pp m cp] 75) := ⟨_, rfl⟩
  have hb0 : Below w.heap.size w W0 := by rw [hW0]; exact bl_trans (bl_alloc w _) (bl_alloc _ _)
  have h2 : BoxT W0 (w.heap.size + 1) pf n cf pp m cp := by
    have q := BoxT.new (w.alloc (.cells #[.slice pf n cf, .slice pp m cp] 25)) pf n cf pp m cp
    rw [show (w.alloc (.cells #[.slice pf n cf, .slice pp m cp] 25)).heap.size = w.heap.size + 1 by simp, ← hW0] at q
    exact q
  have h0 := h.below hb0
  have HFF := Lib.hid (ffold_free pf pp cf cp n m F c W0 h0.fl h0.fs h0.fb)
  have HB0 := Lib.hid hb0
  have H0 := Lib.hid h0
  have H2 := Lib.hid h2
  have HPH := Lib.hid HPO
  rw [hW0] at HFF
  clear h HPO h0 h2 hb0
  go_enter Tryz.func20, Tryz.ntmps20
  go_wp2_with fail
  refine HFF.out.mono ?_
  rw [← hW0]
  rintro e w2 ⟨⟨t, b, rfl, htb⟩, hb2⟩
  have h2 := H2.out.below hb2
  have c0 := h2.c0
  have c1 := h2.c1
  have HB2 := Lib.hid (bl_trans HB0.out hb2)
  have HTB := Lib.hid htb
  have HRG := Lib.hid (tright_any HPH.out pf pp cf cp n m F xs w2 (H0.out.below hb2))
  clear htb hb2 hW0 HFF
  cases b with
  | false =>
    have HV : Hid (canonF F xs c = c) := by
      show _ = _
      unfold canonF
      split
      · next htr => have := (HTB.out htr.1.2.1).2; cases e : look F c with
        | none => rfl
        | some _ => rw [e] at this; cases this
      · rfl
    clear h2 c0 c1 HRG
    go_wp2
    go_ret
    exact ⟨by rw [HV.out]; rfl, HB2.out⟩
  | true =>
    clear h2
    go_wp2_with fail
    refine HRG.out.mono ?_
    rintro e w3 ⟨u, rfl, hu, hb3⟩
    have HB3 := Lib.hid (bl_trans HB2.out hb3)
    cases u with
    | false =>
      have HV : Hid (canonF F xs c = c) := by
        show _ = _
        unfold canonF
        rw [if_neg (fun h => by have := hu.2 h; cases this)]
      clear hu hb3 c0 c1 HRG
      go_wp2
      go_ret
      exact ⟨by rw [HV.out]; rfl, HB3.out⟩
    | true =>
      have HV : Hid (canonF F xs c = t) := by
        show _ = _
        have htr := hu.1 rfl
        unfold canonF
        rw [if_pos htr]
        have h1 := HTB.out htr.1.2.1
        cases e : look F c with
        | none => rw [e] at h1; cases h1.2
        | some q => rw [e] at h1; exact h1.1.symm
      clear hu hb3 c0 c1 HRG
      go_wp2
      go_ret
      exact ⟨by rw [HV.out]; rfl, HB3.out⟩
end Go.Proofs.YtgcgclmfjlecaaaGreat

