/- Plain: texts in their order: what strings.Compare tells, and what '<=' tells of them. -/
/- fold's search of a prop by its name; the set of it. -/
/- fold's prop: the set of a name. -/
/- fold.Prop: the set of a name, in new memory. -/
import Derived.Test.YtglgfpapackcdaaGreatGsb
import Derived.Lib.Bytealg
import Derived.Sort.Walk0

namespace Go.Proofs.YtglgfpapackcdaaGreat
open Go.RowKit Tnr

theorem cmpB : ∀ (a b : List UInt8), (Lib.compareBytes a b = -1 ∧ a < b) ∨ (Lib.compareBytes a b = 0 ∧ a = b) ∨ (Lib.compareBytes a b = 1 ∧ b < a)
  | [], [] => .inr (.inl ⟨rfl, rfl⟩)
  | [], y :: b => .inl ⟨rfl, by simp⟩
  | x :: a, [] => .inr (.inr ⟨rfl, by simp⟩)
  | x :: a, y :: b => by
    unfold Lib.compareBytes
    by_cases h1 : x < y
    · left; rw [if_pos h1]; exact ⟨rfl, List.Lex.rel h1⟩
    · by_cases h2 : y < x
      · right; right; rw [if_neg h1, if_pos h2]; exact ⟨rfl, List.Lex.rel h2⟩
      · have e : x = y := by
          have h3 : ¬ x.toNat < y.toNat := h1
          have h4 : ¬ y.toNat < x.toNat := h2
          exact UInt8.toNat_inj.1 (by omega)
        subst e
        rw [if_neg h1, if_neg h2]
        rcases cmpB a b with ⟨g1, g2⟩ | ⟨g1, g2⟩ | ⟨g1, g2⟩
        · left; exact ⟨g1, List.Lex.cons g2⟩
        · right; left; exact ⟨g1, by rw [g2]⟩
        · right; right; exact ⟨g1, List.Lex.cons g2⟩
theorem lt_tr {a b c : List UInt8} (h1 : a < b) (h2 : b < c) : a < c := List.lt_trans h1 h2
theorem lt_ir (a : List UInt8) : ¬ a < a := List.lt_irrefl a
theorem toList_data (s : ByteArray) : s.toList = s.data.toList := Go.ByteArray.toList_eq s
theorem leB_iff (a b : ByteArray) : leB a b = false ↔ b.data.toList < a.data.toList := by
  unfold leB
  rw [bytesLess_eq, toList_data, toList_data]
  rcases cmpB a.data.toList b.data.toList with ⟨_, g⟩ | ⟨_, g⟩ | ⟨_, g⟩
  · rw [decide_eq_true g]
    constructor
    · intro h; simp at h
    · intro h; exact absurd (lt_tr g h) (lt_ir _)
  · rw [g]
    constructor
    · intro h; simp at h
    · intro h; exact absurd h (lt_ir _)
  · constructor
    · intro _; exact g
    · intro _
      have n1 : ¬ a.data.toList < b.data.toList := fun h => lt_ir _ (lt_tr g h)
      have n2 : a.data.toList ≠ b.data.toList := fun h => lt_ir _ (h ▸ g)
      rw [decide_eq_false n1]
      simpa using n2
end Go.Proofs.YtglgfpapackcdaaGreat


namespace Go.Proofs.YtglgfpapackcdaaGreat
open Go.RowKit Tnr

set_option maxHeartbeats 800000 in
set_option maxRecDepth 100000 in
theorem pcmp_any (s z : ByteArray) (q : Option Addr) (n c : Nat) (w : World) : Calls Tryz.prog 76 #[.agg #[.string s, .slice q n c], .string z] w fun e w' => e = .returned (.int .i64 (Lib.compareBytes s.data.toList z.data.toList)) ∧ Below w.heap.size w w' := by
  have HC := Lib.hid (fun W => Tryz.strings_Compare s z W)
  have HB := Lib.hid (bl_alloc w (.cells #[.string s, .slice q n c] 37))
  go_enter Tryz.func76, Tryz.ntmps76
  go_wp2_with fail
  refine (HC.out _).mono ?_
  rintro e w2 ⟨rfl, rfl⟩
  generalize hv : Lib.compareBytes s.data.toList z.data.toList = v
  have HV := Lib.hid hv
  clear hv
  go_wp2
  go_ret
  exact ⟨by rw [HV.out]; rfl, HB.out⟩
def nm (xs : List PV) (i : Nat) : List UInt8 := (gp xs i).1.data.toList
def RiseP (xs : List PV) : Prop := ∀ i j, i < j → j < xs.length → nm xs i < nm xs j
def AtP (xs : List PV) (z : List UInt8) (k : Nat) : Prop := k ≤ xs.length ∧ (∀ i, i < k → nm xs i < z) ∧ ∀ i, k ≤ i → i < xs.length → ¬ nm xs i < z
set_option maxHeartbeats 1600000 in
set_option maxRecDepth 100000 in
theorem psearch_any (p : Option Addr) (c n : Nat) (xs : List PV) (z : ByteArray) (w : World) (hn : n = xs.length) (hp : SlP w p xs) (hr : RiseP xs) (hl : n ≤ 10000000000000) :
    Calls Tryz.prog 75 #[.slice p n c, .string z, .func (.func 76) #[] #[]] w fun e w' => ∃ k : Nat, e = .returned (.tuple #[.int .i64 (k : Nat), .bool (decide (k < n ∧ nm xs k = z.data.toList))]) ∧ AtP xs z.data.toList k ∧ Below w.heap.size w w' := by
  have HP := Lib.hid hp
  have HN := Lib.hid hn
  have HR := Lib.hid hr
  have hlI : (n : Int) ≤ 10000000000000 := by omega
  clear hp hn hr hl
  go_enter Tryz.func75, Tryz.ntmps75
  go_wp2
  go_loopw [9, 10] (fun iv jv wr => ∃ i j : Nat, i ≤ j ∧ j ≤ n ∧ iv = .int .i64 (i : Nat) ∧ jv = .int .i64 (j : Nat) ∧ Hid (Below w.heap.size w wr) ∧ Hid (∀ k, k < i → nm xs k < z.data.toList) ∧ Hid (∀ k, j ≤ k → k < xs.length → ¬ nm xs k < z.data.toList)) (fun iv jv _ => (intOf jv).toNat - (intOf iv).toNat)
  case atStart => exact ⟨0, n, Nat.zero_le _, Nat.le_refl _, rfl, rfl, Below.refl _ _, fun k h => absurd h (by omega), fun k h1 h2 => by have := HN.out; omega⟩
  case round =>
    obtain ⟨i, j, hij, hj, rfl, rfl, HB, HL, HH⟩ := hrel
    rename World => wr
    by_cases hlt : i < j
    · have hltI : (i : Int) < j := by omega
      have hjI : (j : Int) ≤ n := by omega
      have hh1 : i ≤ (i + j) / 2 := by omega
      have hh2 : (i + j) / 2 < j := by omega
      obtain ⟨b, o, rfl, hc0, hc1⟩ := slp_at (HP.out.below HB.out) (show (i + j) / 2 < xs.length by have := HN.out; omega)
      have HCM := Lib.hid (pcmp_any (gp xs ((i + j) / 2)).1 z (gp xs ((i + j) / 2)).2.1 (gp xs ((i + j) / 2)).2.2.2.length (gp xs ((i + j) / 2)).2.2.1 wr)
      have HNM : Hid (nm xs ((i + j) / 2) = (gp xs ((i + j) / 2)).1.data.toList) := rfl
      have hcc := cmpB (gp xs ((i + j) / 2)).1.data.toList z.data.toList
      rw [← HNM.out] at hcc
      generalize hv : Lib.compareBytes (nm xs ((i + j) / 2)) z.data.toList = v at hcc
      rw [← HNM.out, hv] at HCM
      have HCC := Lib.hid hcc
      generalize (gp xs ((i + j) / 2)).1 = s at hc0 HCM
      generalize (gp xs ((i + j) / 2)).2.1 = q at hc1 HCM
      generalize (gp xs ((i + j) / 2)).2.2.1 = cq at hc1 HCM
      generalize (gp xs ((i + j) / 2)).2.2.2.length = nq at hc1 HCM
      clear hcc hv HNM
      go_wp2_with fail
      refine HCM.out.mono ?_
      rintro e w2 ⟨rfl, hb2⟩
      have HB2 := Lib.hid (bl_trans HB.out hb2)
      clear hb2 hc0 hc1 HCM
      by_cases hyz : nm xs ((i + j) / 2) < z.data.toList
      · have e1 : v = -1 := by
          rcases HCC.out with ⟨h, _⟩ | ⟨_, h⟩ | ⟨_, h⟩
          · exact h
          · exact absurd (h ▸ hyz) (lt_ir _)
          · exact absurd (lt_tr hyz h) (lt_ir _)
        subst e1
        have HL2 : Hid (∀ k, k < (i + j) / 2 + 1 → nm xs k < z.data.toList) := by
          intro k hk
          by_cases e : k = (i + j) / 2
          · rw [e]; exact hyz
          · exact lt_tr (HR.out k ((i + j) / 2) (by omega) (by have := HN.out; omega)) hyz
        clear hyz HCC
        go_wp2
        go_roundw
        case rel => exact ⟨(i + j) / 2 + 1, j, by omega, hj, by go_num, rfl, HB2.out, HL2.out, HH.out⟩
        case measure => simp [intOf]; omega
      · have hc : 0 ≤ v := by
          rcases HCC.out with ⟨_, h⟩ | ⟨h, _⟩ | ⟨h, _⟩
          · exact absurd h hyz
          · omega
          · omega
        have HH2 : Hid (∀ k, (i + j) / 2 ≤ k → k < xs.length → ¬ nm xs k < z.data.toList) := by
          intro k hk hkd h
          by_cases e : k = (i + j) / 2
          · rw [e] at h; exact hyz h
          · exact hyz (lt_tr (HR.out ((i + j) / 2) k (by omega) hkd) h)
        clear hyz HCC
        go_wp2
        go_roundw
        case rel => exact ⟨i, (i + j) / 2, hh1, by omega, rfl, by go_num, HB2.out, HL.out, HH2.out⟩
        case measure => simp [intOf]; omega
    · have hji : j = i := by omega
      subst hji
      have HAT : Hid (AtP xs z.data.toList j) := ⟨by have := HN.out; omega, HL.out, HH.out⟩
      by_cases hjn : j < n
      · have hjI : (j : Int) < n := by omega
        obtain ⟨b, o, rfl, hc0, hc1⟩ := slp_at (HP.out.below HB.out) (show j < xs.length by have := HN.out; omega)
        have HCM := Lib.hid (pcmp_any (gp xs j).1 z (gp xs j).2.1 (gp xs j).2.2.2.length (gp xs j).2.2.1 wr)
        have HNM : Hid (nm xs j = (gp xs j).1.data.toList) := rfl
        have hcc := cmpB (gp xs j).1.data.toList z.data.toList
        rw [← HNM.out] at hcc
        generalize hv : Lib.compareBytes (nm xs j) z.data.toList = v at hcc
        rw [← HNM.out, hv] at HCM
        have HE : Hid ((v == 0) = decide (j < n ∧ nm xs j = z.data.toList)) := by
          show _ = _
          rcases hcc with ⟨h, g⟩ | ⟨h, g⟩ | ⟨h, g⟩
          · rw [h, decide_eq_false (fun q => lt_ir _ (q.2 ▸ g))]; rfl
          · rw [h, decide_eq_true (show j < n ∧ _ from ⟨hjn, g⟩)]; rfl
          · rw [h, decide_eq_false (fun q => lt_ir _ (q.2 ▸ g))]; rfl
        generalize (gp xs j).1 = s at hc0 HCM
        generalize (gp xs j).2.1 = q at hc1 HCM
        generalize (gp xs j).2.2.1 = cq at hc1 HCM
        generalize (gp xs j).2.2.2.length = nq at hc1 HCM
        clear hcc hv HNM hlt
        go_wp2_with fail
        refine HCM.out.mono ?_
        rintro e w2 ⟨rfl, hb2⟩
        have HB2 := Lib.hid (bl_trans HB.out hb2)
        clear hb2 hc0 hc1 HCM
        go_wp2
        refine bodyPost_ret (v := .tuple #[.int .i64 (j : Nat), .bool (v == 0)]) (by simp [results, Tryz.f75, go_sem]) rfl ⟨j, by rw [← HE.out], HAT.out, HB2.out⟩
      · have hjI : (n : Int) ≤ j := by omega
        have HE : Hid (decide (j < n ∧ nm xs j = z.data.toList) = false) := decide_eq_false (fun h => hjn h.1)
        clear hlt
        go_wp2
        refine bodyPost_ret (v := .tuple #[.int .i64 (j : Nat), .bool false]) (by simp [results, Tryz.f75, go_sem]) rfl ⟨j, by rw [HE.out], HAT.out, HB.out⟩
end Go.Proofs.YtglgfpapackcdaaGreat


namespace Go.Proofs.YtglgfpapackcdaaGreat
open Go.RowKit Tnr

theorem rise_PR {xs : List PV} (h : PR xs) : RiseP xs := by
  intro i j hij hj
  induction j with
  | zero => omega
  | succ j ih =>
    have h1 := (leB_iff _ _).1 ((h (j + 1) hj).2.1 (by omega))
    rw [show j + 1 - 1 = j by omega] at h1
    by_cases e : i = j
    · subst e; exact h1
    · exact lt_tr (ih (by omega) (by omega)) h1
theorem atP_no {xs : List PV} {z : List UInt8} {k : Nat} (hr : RiseP xs) (h : AtP xs z k) (hn : ¬ (k < xs.length ∧ nm xs k = z)) : ∀ i, i < xs.length → nm xs i ≠ z := by
  intro i hi e
  obtain ⟨_, a2, a3⟩ := h
  by_cases hik : i < k
  · have := a2 i hik; rw [e] at this; exact lt_ir _ this
  · by_cases e2 : i = k
    · subst e2; exact hn ⟨hi, e⟩
    · have h1 := hr k i (by omega) hi
      rw [e] at h1
      exact a3 k (Nat.le_refl _) (by omega) h1
set_option maxHeartbeats 1600000 in
set_option maxRecDepth 100000 in
theorem tprop_any (pf pp : Option Addr) (cf cp n m : Nat) (F : List R) (xs : List PV) (z : ByteArray) (w : World) (h : Tab w pf n pp m F xs) (hr : RiseP xs) :
    Calls Tryz.prog 46 #[.agg #[.slice pf n cf, .slice pp m cp], .string z] w fun e w' => ((∃ k, k < xs.length ∧ nm xs k = z.data.toList ∧ e = .returned (.tuple #[.slice (gp xs k).2.1 (gp xs k).2.2.2.length (gp xs k).2.2.1, .bool true])) ∨ ((∀ k, k < xs.length → nm xs k ≠ z.data.toList) ∧ e = .returned (.tuple #[.slice none 0 0, .bool false]))) ∧ Below w.heap.size w w' := by
  have hb1 : Below w.heap.size w (w.alloc (.cells #[.slice pf n cf, .slice pp m cp] 69)) := bl_alloc _ _
  have hbx := BoxT.new w pf n cf pp m cp
  have hc1 := hbx.c1
  have h1 := h.below hb1
  have HBX := Lib.hid hbx
  have H1 := Lib.hid h1
  have HB1 := Lib.hid hb1
  have HR := Lib.hid hr
  have HSR := Lib.hid (psearch_any pp cp m xs z (w.alloc (.cells #[.slice pf n cf, .slice pp m cp] 69)) h1.pl h1.ps hr h1.pb)
  have hmI : (m : Int) ≤ 10000000000000 := by have := h1.pb; omega
  clear h hb1 hbx h1 hr
  go_enter Tryz.func46, Tryz.ntmps46
  go_wp2_with fail
  refine HSR.out.mono ?_
  rintro e w2 ⟨k, rfl, hat, hb2⟩
  have HB2 := Lib.hid (bl_trans HB1.out hb2)
  have hd1 := (HBX.out.below hb2).c1
  have HP2 := Lib.hid ((H1.out.below hb2).ps)
  have HN : Hid (m = xs.length) := H1.out.pl
  have HAT := Lib.hid hat
  clear hat hb2 HSR hc1 HBX HB1
  by_cases hk : k < m ∧ nm xs k = z.data.toList
  · have hkI : (k : Int) < m := by omega
    have hD : decide (k < m ∧ nm xs k = z.data.toList) = true := decide_eq_true hk
    obtain ⟨b, o, rfl, hc0, hc2⟩ := slp_at HP2.out (show k < xs.length by rw [← HN.out]; exact hk.1)
    have HK : Hid (k < xs.length ∧ nm xs k = z.data.toList) := by rw [HN.out] at hk; exact hk
    obtain ⟨q, hq⟩ : ∃ q, q = (gp xs k).2.1 := ⟨_, rfl⟩
    obtain ⟨cq, hcq⟩ : ∃ q, q = (gp xs k).2.2.1 := ⟨_, rfl⟩
    obtain ⟨nq, hnq⟩ : ∃ q, q = (gp xs k).2.2.2.length := ⟨_, rfl⟩
    rw [← hq, ← hcq, ← hnq] at hc2
    have HQ := Lib.hid hq
    have HCQ := Lib.hid hcq
    have HNQ := Lib.hid hnq
    rw [hD]
    clear hD hk hc0 hq hcq hnq
    go_wp2
    refine bodyPost_ret (v := .tuple #[.slice q nq cq, .bool true]) (by simp [results, Tryz.f46, go_sem]) rfl ⟨.inl ⟨k, HK.out.1, HK.out.2, by rw [← HQ.out, ← HCQ.out, ← HNQ.out]⟩, HB2.out⟩
  · have hD : decide (k < m ∧ nm xs k = z.data.toList) = false := decide_eq_false hk
    have HNO : Hid (∀ k, k < xs.length → nm xs k ≠ z.data.toList) := atP_no HR.out HAT.out (by rw [← HN.out]; exact hk)
    rw [hD]
    clear hD hk
    go_wp2
    refine bodyPost_ret (v := .tuple #[.slice none 0 0, .bool false]) (by simp [results, Tryz.f46, go_sem]) rfl ⟨.inr ⟨HNO.out, rfl⟩, HB2.out⟩
end Go.Proofs.YtglgfpapackcdaaGreat


namespace Go.Proofs.YtglgfpapackcdaaGreat
open Go.RowKit Tnr

theorem tab_nil (w : World) : Tab w none 0 none 0 [] [] := ⟨rfl, .inl rfl, by decide, rfl, ⟨fun x hx => by simp at hx, .inl rfl⟩, by decide, fun x hx => by simp at hx⟩
theorem cn_nil : cn [] = [] := by first | rfl | decide | simp [cn, puts, merge]
theorem riseP_nil : RiseP [] := fun i j _ hj => by simp at hj
def PropP (F : List R) (xs : List PV) (z : List UInt8) (w : World) (e : Ending) (w' : World) : Prop :=
  ∃ q d l b, e = .returned (.tuple #[.slice q l.length d, .bool b]) ∧ OwnR w' w.heap.size (.slice q l.length d) l ∧ Below w.heap.size w w' ∧
    ((b = true ∧ TR F xs ∧ ∃ k, k < xs.length ∧ nm xs k = z ∧ l = cn (gp xs k).2.2.2) ∨ (b = false ∧ l = [] ∧ (TR F xs → ∀ k, k < xs.length → nm xs k ≠ z)))
set_option maxHeartbeats 3200000 in
set_option maxRecDepth 100000 in
theorem fprop_any (HPO : PropsOk) (pf pp : Option Addr) (cf cp n m : Nat) (F : List R) (xs : List PV) (z : ByteArray) (w : World) (h : Tab w pf n pp m F xs) :
    Calls Tryz.prog 14 #[.agg #[.slice pf n cf, .slice pp m cp], .string z] w (PropP F xs z.data.toList w) := by
  have hb1 : Below w.heap.size w (w.alloc (.cells #[.slice pf n cf, .slice pp m cp] 30)) := bl_alloc _ _
  have h1 := h.below hb1
  have H1 := Lib.hid h1
  have HB1 := Lib.hid hb1
  have HTK := Lib.hid (taken_any HPO pf pp cf cp n m F xs (w.alloc (.cells #[.slice pf n cf, .slice pp m cp] 30)) h1)
  clear h h1 hb1 HPO
  go_enter Tryz.func14, Tryz.ntmps14
  go_wp2_with fail
  refine HTK.out.mono ?_
  rintro e w2 ⟨⟨htr, rfl⟩ | ⟨htr, rfl⟩, hb2⟩
  · have h2 := H1.out.below hb2
    have HPR := Lib.hid (tprop_any pf pp cf cp n m F xs z w2 h2 (rise_PR htr.2))
    have HB2 := Lib.hid (bl_trans HB1.out hb2)
    have HTR := Lib.hid htr
    have H2 := Lib.hid h2
    clear htr hb2 h2 HTK H1
    go_wp2_with fail
    refine HPR.out.mono ?_
    rintro e w3 ⟨⟨k, hk, hnm, rfl⟩ | ⟨hno, rfl⟩, hb3⟩
    · have hs3 : SlR w3 (gp xs k).2.1 (gp xs k).2.2.2 := (H2.out.below hb3).ps.1 _ (by rw [gp_get hk]; exact List.getElem_mem _)
      have hl2 := (HTR.out.2 k hk).2.2.1
      have HJ := join_any (some ⟨w3.heap.size, 0, none⟩) 1 1 [((gp xs k).2.1, (gp xs k).2.2.1, (gp xs k).2.2.2)] (cn (gp xs k).2.2.2) (w3.alloc (.cells #[.slice (gp xs k).2.1 (gp xs k).2.2.2.length (gp xs k).2.2.1] 25)) (by simp [flat]) rfl (sls_new (fun x hx => by rw [List.mem_singleton] at hx; subst hx; exact hs3) rfl) (by simp [flat]; omega) (by simp)
      have HJJ := Lib.hid HJ
      have HB3 := Lib.hid (bl_trans HB2.out hb3)
      have HK := Lib.hid (And.intro hk hnm)
      obtain ⟨L, hL⟩ : ∃ L, L = cn (gp xs k).2.2.2 := ⟨_, rfl⟩
      rw [← hL] at HJJ
      have HL := Lib.hid hL
      clear hs3 hl2 HJ hb3 hk hnm hL
      generalize (gp xs k).2.1 = q at HJJ ⊢
      generalize (gp xs k).2.2.1 = cq at HJJ ⊢
      generalize (gp xs k).2.2.2.length = nq at HJJ ⊢
      go_wp2_with fail
      refine HJJ.out.mono ?_
      rintro e w4 ⟨q4, d4, rfl, ho4, hb4⟩
      have hb4' := bl_trans HB3.out (bl_trans (bl_alloc w3 (.cells #[.slice q nq cq] 25)) hb4)
      have HO4 : Hid (OwnR w4 w.heap.size (.slice q4 L.length d4) L) := ownR_down ho4 (Nat.le_trans HB3.out.size (bl_alloc w3 _).size)
      have HB4 := Lib.hid hb4'
      clear ho4 hb4 hb4'
      go_wp2
      refine bodyPost_ret (v := .tuple #[.slice q4 L.length d4, .bool true]) (by simp [results, Tryz.f14, go_sem]) rfl ⟨q4, d4, L, true, rfl, HO4.out, HB4.out, .inl ⟨rfl, HTR.out, k, HK.out.1, HK.out.2, HL.out⟩⟩
    · have HJ := join_any (some ⟨w3.heap.size, 0, none⟩) 1 1 [(none, 0, [])] [] (w3.alloc (.cells #[.slice none 0 0] 25)) (by simp [flat, cn_nil]) rfl (sls_new (fun x hx => by rw [List.mem_singleton] at hx; subst hx; exact .inl rfl) rfl) (by simp [flat]) (by simp)
      have HJJ := Lib.hid HJ
      have HB3 := Lib.hid (bl_trans HB2.out hb3)
      have HNO := Lib.hid hno
      clear HJ hb3 hno
      go_wp2_with fail
      refine HJJ.out.mono ?_
      rintro e w4 ⟨q4, d4, rfl, ho4, hb4⟩
      have hb4' := bl_trans HB3.out (bl_trans (bl_alloc w3 (.cells #[.slice none 0 0] 25)) hb4)
      have HO4 : Hid (OwnR w4 w.heap.size (.slice q4 0 d4) []) := ownR_down ho4 (Nat.le_trans HB3.out.size (bl_alloc w3 _).size)
      have HB4 := Lib.hid hb4'
      clear ho4 hb4 hb4'
      go_wp2
      refine bodyPost_ret (v := .tuple #[.slice q4 0 d4, .bool false]) (by simp [results, Tryz.f14, go_sem]) rfl ⟨q4, d4, [], false, rfl, HO4.out, HB4.out, .inr ⟨rfl, rfl, fun _ => HNO.out⟩⟩
  · have HPR := Lib.hid (tprop_any none none 0 0 0 0 [] [] z w2 (tab_nil w2) riseP_nil)
    have HB2 := Lib.hid (bl_trans HB1.out hb2)
    have HTR := Lib.hid htr
    clear htr hb2 HTK H1
    go_wp2_with fail
    refine HPR.out.mono ?_
    rintro e w3 ⟨⟨k, hk, _, _⟩ | ⟨_, rfl⟩, hb3⟩
    · simp at hk
    · have HJ := join_any (some ⟨w3.heap.size, 0, none⟩) 1 1 [(none, 0, [])] [] (w3.alloc (.cells #[.slice none 0 0] 25)) (by simp [flat, cn_nil]) rfl (sls_new (fun x hx => by rw [List.mem_singleton] at hx; subst hx; exact .inl rfl) rfl) (by simp [flat]) (by simp)
      have HJJ := Lib.hid HJ
      have HB3 := Lib.hid (bl_trans HB2.out hb3)
      clear HJ hb3
      go_wp2_with fail
      refine HJJ.out.mono ?_
      rintro e w4 ⟨q4, d4, rfl, ho4, hb4⟩
      have hb4' := bl_trans HB3.out (bl_trans (bl_alloc w3 (.cells #[.slice none 0 0] 25)) hb4)
      have HO4 : Hid (OwnR w4 w.heap.size (.slice q4 0 d4) []) := ownR_down ho4 (Nat.le_trans HB3.out.size (bl_alloc w3 _).size)
      have HB4 := Lib.hid hb4'
      clear ho4 hb4 hb4'
      go_wp2
      refine bodyPost_ret (v := .tuple #[.slice q4 0 d4, .bool false]) (by simp [results, Tryz.f14, go_sem]) rfl ⟨q4, d4, [], false, rfl, HO4.out, HB4.out, .inr ⟨rfl, rfl, fun h => absurd h HTR.out⟩⟩
end Go.Proofs.YtglgfpapackcdaaGreat

