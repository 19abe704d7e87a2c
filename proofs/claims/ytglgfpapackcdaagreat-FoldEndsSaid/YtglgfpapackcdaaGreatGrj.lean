/- FoldSets' walk. -/
import Derived.Test.YtglgfpapackcdaaGreatGri
import Derived.Test.YtglgfpapackcdaaGreatGc
import Derived.Test.YtglgfpapackcdaaGreatFd

namespace Go.Proofs.YtglgfpapackcdaaGreat
open Go.RowKit Tnr

def Giv (w : World) (l : List R) (e : Ending) (w' : World) : Prop :=
  ∃ q c, ∃ d : D, e = .returned (.slice q l.length c) ∧ Hid (SlR w' q l) ∧ Hid (Value.slice q l.length c = d.val) ∧ Hid (d.n = l.length) ∧ Hid (Room w' 2 d) ∧ Hid (∀ b, d.p = some b → w.heap.size ≤ b ∧ b < w'.heap.size) ∧ Hid (Below w.heap.size w w')
theorem giv_of {w : World} {l : List R} {e : Ending} {w' : World} (h : Tells w l e w') : Giv w l e w' := by
  obtain ⟨q, c, h1, h2, h3⟩ := h
  obtain ⟨d, e1, e2, e3, e4⟩ := own_room h2
  exact ⟨q, c, d, h1, tells_sl h2, e1, e2, e3, e4, h3⟩
theorem room_below {w w' : World} {d : D} (h : Room w 2 d) (hb : Below w.heap.size w w') : Room w' 2 d := h.at hb.size (fun b e => hb.block b (h.lt b e))
abbrev STB (w2 : World) (bt : Nat) (v0 v1 : Value) (W : World) : Prop := W.cell? ⟨bt, 0, none⟩ = some v0 ∧ W.cell? ⟨bt, 1, none⟩ = some v1 ∧ Hid (Below w2.heap.size w2 W)
theorem stb_below {w2 W W' : World} {bt : Nat} {v0 v1 : Value} (h : STB w2 bt v0 v1 W) (hb : Hid (Below W.heap.size W W')) : STB w2 bt v0 v1 W' :=
  ⟨keep_cell hb.out h.1, keep_cell hb.out h.2.1, bl_trans h.2.2.out hb.out⟩

theorem stb_bel {w2 W : World} {bt : Nat} {v0 v1 : Value} (h : STB w2 bt v0 v1 W) : Below w2.heap.size w2 W := h.2.2.out
theorem bl_allocH (w : World) (o : Obj) : Hid (Below w.heap.size w (w.alloc o)) := bl_alloc w o
theorem slD_below {w w' : World} {q : Option Addr} {ds : List D} (h : SlD w q ds) (hb : Below w.heap.size w w') (_ : ∀ b, InD ds b → b < w.heap.size) : SlD w' q ds := by
  rcases h with h | ⟨b, off, h1, h2, h3, h4⟩
  · exact .inl h
  · exact .inr ⟨b, off, h1, h2, Nat.lt_of_lt_of_le h3 hb.size, fun k hk => keep_cell hb (h4 k hk)⟩
theorem words_length (F : List R) (ps : List PV) (t fo : Bool) (ht : t = true ↔ TR F ps) : (wordsS F t fo).length ≤ 100000000 := by
  unfold wordsS
  cases fo with
  | false => exact (by decide : wordsL.length ≤ 100000000)
  | true =>
    rw [if_pos rfl]
    cases t with
    | false =>
      rw [if_neg (by decide)]
      exact Nat.le_trans (cn_length _) (by decide)
    | true =>
      rw [if_pos rfl]
      have h := fr_length (ht.1 rfl).1
      unfold clo
      refine Nat.le_trans (cn_length _) ?_
      have h1 := toks_length F wordsL
      have h2 : (froms F wordsL).length ≤ F.length := by
        unfold froms
        rw [List.length_map]
        exact List.length_filter_le _ _
      have h3 : wordsL.length = 4 := rfl
      simp only [List.length_append, pts, List.length_map]
      omega
set_option maxHeartbeats 6400000 in
set_option maxRecDepth 100000 in
theorem foldSets_true (pf pp : Option Addr) (cf cp n m : Nat) (F : List R) (ps : List PV) (fo : Bool) (w : World) (hn : n = F.length) (hF : SlR w pf F) (hFb : n ≤ 10000000000000) (hm : m = ps.length) (hP : SlP w pp ps) (hmb : m ≤ 10000000000000) (hz : ∀ x ∈ ps, x.1.size ≤ 9223372036854775807 ∧ x.2.2.2.length ≤ 9223372036854775807) :
    Calls Tryz.prog 8 #[.agg #[.slice pf n cf, .slice pp m cp], .bool fo] w fun e w' => e = .returned (.bool true) ∧ Below w.heap.size w w' := by
  obtain ⟨w1, hw1⟩ : ∃ W, W = w.alloc (.cells #[.slice pf n cf, .slice pp m cp] 30) := ⟨_, rfl⟩
  have hb1 : Below w.heap.size w w1 := by rw [hw1]; exact bl_alloc _ _
  have hc0 : w1.cell? ⟨w.heap.size, 0, none⟩ = some (.slice pf n cf) := by rw [hw1, World.cell?_alloc_at _ _ _ _ rfl]; rfl
  have hc1 : w1.cell? ⟨w.heap.size, 1, none⟩ = some (.slice pp m cp) := by rw [hw1, World.cell?_alloc_at _ _ _ _ rfl]; rfl
  have HC := Lib.hid (And.intro hc0 hc1)
  have HB1 := Lib.hid hb1
  have HF := Lib.hid (hF.below hb1)
  have HP := Lib.hid (hP.below hb1)
  have HN := Lib.hid (And.intro hn (And.intro hFb (And.intro hm hmb)))
  have HTO := Lib.hid (tablesOf_any pf pp cf cp n m ps w1 hm (by omega) (hP.below hb1) hz)
  rw [hw1] at HTO
  clear hn hF hFb hm hP hmb hz hb1 hc0 hc1
  go_enter Tryz.func8, Tryz.ntmps8
  go_wp2_with fail
  refine HTO.out.mono ?_
  rw [← hw1]
  rintro e w2 ⟨z, rfl, hzz, hb2⟩
  have HB2 := Lib.hid (bl_trans HB1.out hb2)
  have HZZ := Lib.hid hzz
  have HC2 := Lib.hid (And.intro (keep_cell hb2 HC.out.1) (keep_cell hb2 HC.out.2))
  have HF2 := Lib.hid (HF.out.below hb2)
  have HP2 := Lib.hid (HP.out.below hb2)
  clear hzz hb2 hw1 HTO HC HF HP HB1
  by_cases hz1 : 120 < z
  · have hzI : (120 : Int) < (z : Int) := by omega
    go_wp2_with fail
    refine (fawake_any w2).mono ?_
    rintro e w3 ⟨rfl, hb3⟩
    have HB3 := Lib.hid (bl_trans HB2.out hb3)
    clear hb3
    go_wp2
    go_ret
    exact ⟨rfl, HB3.out⟩
  · have hzI : ¬ ((120 : Int) < (z : Int)) := by omega
    obtain ⟨hm1, hsm⟩ := HZZ.out (by omega)
    have hall : ∀ x ∈ ps, x.1.size ≤ 1000 ∧ x.2.2.2.length ≤ 120 := fun x hx => by
      obtain ⟨j, hj, rfl⟩ := List.mem_iff_getElem.1 hx
      have h := hsm j (by have := HN.out.2.2.1; omega)
      rw [gp_get hj] at h
      exact h
    have HT : Hid (Tab w2 pf n pp m F ps) := ⟨HN.out.1, HF2.out, HN.out.2.1, HN.out.2.2.1, HP2.out, HN.out.2.2.2, fun x hx => Nat.le_trans (hall x hx).2 (by decide)⟩
    have HPN : Hid (∀ x ∈ ps, x.1.size ≤ 1000000000) := fun x hx => Nat.le_trans (hall x hx).1 (by decide)
    obtain ⟨t, ht⟩ : ∃ t : Bool, t = true ↔ TR F ps := by
      rcases Classical.em (TR F ps) with h | h
      · exact ⟨true, ⟨fun _ => h, fun _ => rfl⟩⟩
      · exact ⟨false, ⟨(fun e => by cases e), fun e => absurd e h⟩⟩
    obtain ⟨LL, hLL⟩ : ∃ l, l = linesL := ⟨_, rfl⟩
    obtain ⟨LD, hLD⟩ : ∃ l, l = digitsL := ⟨_, rfl⟩
    obtain ⟨LS, hLS⟩ : ∃ l, l = spacesL := ⟨_, rfl⟩
    obtain ⟨S0, hS0⟩ : ∃ l, l = wordsS F t fo := ⟨_, rfl⟩
    have HLEN : Hid (LL.length ≤ 100000000 ∧ LD.length ≤ 100000000 ∧ LS.length ≤ 100000000 ∧ S0.length ≤ 100000000) := by
      refine ⟨by rw [hLL]; decide, by rw [hLD]; decide, by rw [hLS]; decide, ?_⟩
      rw [hS0]
      exact words_length F ps t fo ht
    have HLI : Hid (∀ W, Calls Tryz.prog 32 #[] W (Giv W LL)) := fun W => by rw [hLL]; exact (lines_any W).mono fun _ _ h => giv_of h
    have HDI : Hid (∀ W, Calls Tryz.prog 33 #[] W (Giv W LD)) := fun W => by rw [hLD]; exact (digits_any W).mono fun _ _ h => giv_of h
    have HSP : Hid (∀ W, Calls Tryz.prog 34 #[] W (Giv W LS)) := fun W => by rw [hLS]; exact (spaces_any W).mono fun _ _ h => giv_of h
    have HWO : Hid (∀ W, Below w2.heap.size w2 W → Calls Tryz.prog 35 #[.agg #[.slice pf n cf, .slice pp m cp], .bool fo] W (Giv W S0)) := fun W hb => by rw [hS0]; exact (fwords_any pf pp cf cp n m F ps t fo W ht (HT.out.below hb)).mono fun _ _ h => giv_of h
    have HRL : Hid (∀ W, Calls Tryz.prog 36 #[] W (Giv W LL)) := fun W => by rw [hLL]; exact (rlines_any W).mono fun _ _ h => giv_of h
    have HRD : Hid (∀ W, Calls Tryz.prog 37 #[] W (Giv W LD)) := fun W => by rw [hLD]; exact (rdigits_any W).mono fun _ _ h => giv_of h
    have HRS : Hid (∀ W, Calls Tryz.prog 38 #[] W (Giv W LS)) := fun W => by rw [hLS]; exact (rspaces_any W).mono fun _ _ h => giv_of h
    have HRW : Hid (∀ W, Below w2.heap.size w2 W → Calls Tryz.prog 39 #[.agg #[.slice pf n cf, .slice pp m cp], .bool fo] W (Giv W S0)) := fun W hb => by rw [hS0]; exact (rwords_any pf pp cf cp n m F ps t fo W ht (HT.out.below hb) HPN.out).mono fun _ _ h => giv_of h
    clear hall hsm hm1 hLL hLD hLS hS0 ht HT HPN HF2 HP2 HZZ
    generalize hbt : w.heap.size = bt at HC2 ⊢
    go_wp2
    go_loopw [5] (fun iv wr => ∃ i : Nat, i ≤ 2 ∧ iv = .int .i64 (i : Nat) ∧ Hid (Below w2.heap.size w2 wr)) (fun iv _ => 2 - (intOf iv).toNat)
    case atStart => exact ⟨0, by omega, rfl, Below.refl _ _⟩
    case round =>
      obtain ⟨i, hi, rfl, HB⟩ := hrel
      rename World => wr
      by_cases hin : i < 2
      · have hiI : (i : Int) < 2 := by omega
        have HI := Lib.hid hin
        have T1 : Hid True := trivial
        have T2 : Hid True := trivial
        have hS0 : STB w2 bt (.slice pf n cf) (.slice pp m cp) wr := ⟨keep_cell HB.out HC2.out.1, keep_cell HB.out HC2.out.2, HB⟩
        have HBD : Hid (Below wr.heap.size wr wr.drew) := bl_drew wr
        clear hin hi
        go_wp2
        go_region_held3 (fun W => W.cell? ⟨bt, 0, none⟩ = some (.slice pf n cf) ∧ W.cell? ⟨bt, 1, none⟩ = some (.slice pp m cp) ∧ Hid (Below w2.heap.size w2 W)) (first | exact stb_below (by assumption) (bl_allocH _ _) | exact stb_below (by assumption) hbF | exact stb_below (by assumption) hbE | exact stb_below (by assumption) hbD | exact stb_below (by assumption) hbC | exact stb_below (by assumption) hbBB | exact stb_below (by assumption) hbA | exact stb_below hS0 HBD | fail) (first | (go_at_call 32; have tk := T1; clear tk T1; (with_reducible refine (HLI.out _).mono ?_); rintro e wA ⟨pA, cA, DA, rfl, sA, vA, nA, rA, lA, hbA⟩) | (go_at_call 33; (with_reducible refine (HDI.out _).mono ?_); rintro e wBB ⟨pB, cB, DB, rfl, sB, vB, nB, rB, lB, hbBB⟩) | (go_at_call 34; (with_reducible refine (HSP.out _).mono ?_); rintro e wC ⟨pC, cC, DC, rfl, sC, vC, nC, rC, lC, hbC⟩) | (go_at_call 35; have tk := T2; clear tk T2; (with_reducible refine (HWO.out _ (stb_bel (by assumption))).mono ?_); rintro e wD ⟨pD, cD, DD, rfl, sD, vD, nD, rD, lD, hbD⟩) | (go_at_call 32; (with_reducible refine (HLI.out _).mono ?_); rintro e wE ⟨pE, cE, DE, rfl, sE, vE, nE, rE, lE, hbE⟩) | (go_at_call 35; (with_reducible refine (HWO.out _ (stb_bel (by assumption))).mono ?_); rintro e wF ⟨pF, cF, DF, rfl, sF, vF, nF, rF, lF, hbF⟩) | fail)
        have kBF := Lib.hid (bl_trans hbBB.out (bl_trans hbC.out (bl_trans hbD.out (bl_trans hbE.out hbF.out))))
        have kCF := Lib.hid (bl_trans hbC.out (bl_trans hbD.out (bl_trans hbE.out hbF.out)))
        have kDF := Lib.hid (bl_trans hbD.out (bl_trans hbE.out hbF.out))
        have kEF := Lib.hid (bl_trans hbE.out hbF.out)
        have RMF : ∀ k, k < 6 → Room wF 2 (dg [DA, DB, DC, DD, DE, DF] k) := fun k hk => match k, hk with
          | 0, _ => room_below rA.out kBF.out
          | 1, _ => room_below rB.out kCF.out
          | 2, _ => room_below rC.out kDF.out
          | 3, _ => room_below rD.out kEF.out
          | 4, _ => room_below rE.out hbF.out
          | 5, _ => rF.out
          | k + 6, h => absurd h (by omega)
        have HNN : Hid (∀ k, k < 6 → (dg [DA, DB, DC, DD, DE, DF] k).n ≤ 100000000) := fun k hk => match k, hk with
          | 0, _ => by show DA.n ≤ _; rw [nA.out]; exact HLEN.out.1
          | 1, _ => by show DB.n ≤ _; rw [nB.out]; exact HLEN.out.2.1
          | 2, _ => by show DC.n ≤ _; rw [nC.out]; exact HLEN.out.2.2.1
          | 3, _ => by show DD.n ≤ _; rw [nD.out]; exact HLEN.out.2.2.2
          | 4, _ => by show DE.n ≤ _; rw [nE.out]; exact HLEN.out.1
          | 5, _ => by show DF.n ≤ _; rw [nF.out]; exact HLEN.out.2.2.2
          | k + 6, h => absurd h (by omega)
        have HUP : Hid (Up wr.drew.heap.size [DA, DB, DC, DD, DE, DF]) := ⟨wA.heap.size, hbA.out.size, lA.out, ⟨wBB.heap.size, hbBB.out.size, lB.out, ⟨wC.heap.size, hbC.out.size, lC.out, ⟨wD.heap.size, hbD.out.size, lD.out, ⟨wE.heap.size, hbE.out.size, lE.out, ⟨wF.heap.size, hbF.out.size, lF.out, trivial⟩⟩⟩⟩⟩⟩
        obtain ⟨wP, hwP⟩ : ∃ W, W = wF.alloc (.cells #[.slice pA LL.length cA, .slice pB LD.length cB, .slice pC LS.length cC, .slice pD S0.length cD, .slice pE LL.length cE, .slice pF S0.length cF] 25) := ⟨_, rfl⟩
        have hbP : Below wF.heap.size wF wP := by rw [hwP]; exact bl_alloc _ _
        have HRM : Hid (∀ k, k < 6 → Room wP 2 (dg [DA, DB, DC, DD, DE, DF] k)) := fun k hk => room_below (RMF k hk) hbP
        have HSD : Hid (SlD wP (some ⟨wF.heap.size, 0, none⟩) [DA, DB, DC, DD, DE, DF]) := by
          rw [hwP]
          exact slD_new (fun b ⟨k, hk, e⟩ => (RMF k hk).lt b e) (by rw [vA.out, vB.out, vC.out, vD.out, vE.out, vF.out]; rfl)
        have HSS : Hid (SlS wP (some ⟨wF.heap.size, 0, none⟩) [(pA, cA, LL), (pB, cB, LD), (pC, cC, LS), (pD, cD, S0), (pE, cE, LL), (pF, cF, S0)]) := by
          rw [hwP]
          refine sls_new (fun x hx => ?_) rfl
          simp only [List.mem_cons, List.not_mem_nil, or_false] at hx
          rcases hx with rfl | rfl | rfl | rfl | rfl | rfl
          · exact sA.out.below kBF.out
          · exact sB.out.below kCF.out
          · exact sC.out.below kDF.out
          · exact sD.out.below kEF.out
          · exact sE.out.below hbF.out
          · exact sF.out
        have kRP := Lib.hid (bl_trans HBD.out (bl_trans hbA.out (bl_trans kBF.out hbP)))
        have HBP := Lib.hid (bl_trans HB.out kRP.out)
        have hP0 : STB w2 bt (.slice pf n cf) (.slice pp m cp) wP := stb_below hS0 kRP
        rw [← hwP]
        generalize hgP : wF.heap.size = gP at HSD HSS ⊢
        have HWD : Hid (wr.drew.heap.size ≤ wP.heap.size) := kRP.out.size
        have HWR : Hid (w2.heap.size ≤ wr.drew.heap.size) := Nat.le_trans HB.out.size (Nat.le_refl _)
        clear hbP hwP RMF hgP sA sB sC sD sE sF vA vB vC vD vE vF nA nB nC nD nE nF rA rB rC rD rE rF lA lB lC lD lE lF hbA hbBB hbC hbD hbE hbF kBF kCF kDF kEF hS0 kRP
        have HBD : Hid (Below wP.heap.size wP wP.drew) := bl_drew wP
        have T1 : Hid True := trivial
        have T2 : Hid True := trivial
        go_wp2
        go_region_held3 (fun W => W.cell? ⟨bt, 0, none⟩ = some (.slice pf n cf) ∧ W.cell? ⟨bt, 1, none⟩ = some (.slice pp m cp) ∧ Hid (Below w2.heap.size w2 W)) (first | exact stb_below (by assumption) (bl_allocH _ _) | exact stb_below (by assumption) hbL | exact stb_below (by assumption) hbK | exact stb_below (by assumption) hbJ | exact stb_below (by assumption) hbI | exact stb_below (by assumption) hbH | exact stb_below (by assumption) hbG | exact stb_below hP0 HBD | fail) (first | (go_at_call 36; have tk := T1; clear tk T1; (with_reducible refine (HRL.out _).mono ?_); rintro e wG ⟨pG, cG, DG, rfl, sG, vG, nG, rG, lG, hbG⟩) | (go_at_call 37; (with_reducible refine (HRD.out _).mono ?_); rintro e wH ⟨pH, cH, DH, rfl, sH, vH, nH, rH, lH, hbH⟩) | (go_at_call 38; (with_reducible refine (HRS.out _).mono ?_); rintro e wI ⟨pI, cI, DI, rfl, sI, vI, nI, rI, lI, hbI⟩) | (go_at_call 39; have tk := T2; clear tk T2; (with_reducible refine (HRW.out _ (stb_bel (by assumption))).mono ?_); rintro e wJ ⟨pJ, cJ, DJ, rfl, sJ, vJ, nJ, rJ, lJ, hbJ⟩) | (go_at_call 36; (with_reducible refine (HRL.out _).mono ?_); rintro e wK ⟨pK, cK, DK, rfl, sK, vK, nK, rK, lK, hbK⟩) | (go_at_call 39; (with_reducible refine (HRW.out _ (stb_bel (by assumption))).mono ?_); rintro e wL ⟨pL, cL, DL, rfl, sL, vL, nL, rL, lL, hbL⟩) | fail)
        have kHL := Lib.hid (bl_trans hbH.out (bl_trans hbI.out (bl_trans hbJ.out (bl_trans hbK.out hbL.out))))
        have kIL := Lib.hid (bl_trans hbI.out (bl_trans hbJ.out (bl_trans hbK.out hbL.out)))
        have kJL := Lib.hid (bl_trans hbJ.out (bl_trans hbK.out hbL.out))
        have kKL := Lib.hid (bl_trans hbK.out hbL.out)
        have kPL := Lib.hid (bl_trans HBD.out (bl_trans hbG.out kHL.out))
        obtain ⟨wQ, hwQ⟩ : ∃ W, W = wL.alloc (.cells #[.slice pG LL.length cG, .slice pH LD.length cH, .slice pI LS.length cI, .slice pJ S0.length cJ, .slice pK LL.length cK, .slice pL S0.length cL] 25) := ⟨_, rfl⟩
        have hbQ : Below wL.heap.size wL wQ := by rw [hwQ]; exact bl_alloc _ _
        have HSQ : Hid (SlS wQ (some ⟨wL.heap.size, 0, none⟩) [(pG, cG, LL), (pH, cH, LD), (pI, cI, LS), (pJ, cJ, S0), (pK, cK, LL), (pL, cL, S0)]) := by
          rw [hwQ]
          refine sls_new (fun x hx => ?_) rfl
          simp only [List.mem_cons, List.not_mem_nil, or_false] at hx
          rcases hx with rfl | rfl | rfl | rfl | rfl | rfl
          · exact sG.out.below kHL.out
          · exact sH.out.below kIL.out
          · exact sI.out.below kJL.out
          · exact sJ.out.below kKL.out
          · exact sK.out.below hbL.out
          · exact sL.out
        have KPQ := Lib.hid (bl_trans kPL.out hbQ)
        rw [← hwQ]
        generalize hgQ : wL.heap.size = gQ at HSQ ⊢
        clear hbQ hwQ hgQ sG sH sI sJ sK sL vG vH vI vJ vK vL nG nH nI nJ nK nL rG rH rI rJ rK rL lG lH lI lJ lK lL hbG hbH hbI hbJ hbK hbL kHL kIL kJL kKL kPL hP0 HBD
        go_wp2_with fail
        refine (sameRows_any (some ⟨gP, 0, none⟩) (some ⟨gQ, 0, none⟩) 6 6 6 [(pA, cA, LL), (pB, cB, LD), (pC, cC, LS), (pD, cD, S0), (pE, cE, LL), (pF, cF, S0)] [(pG, cG, LL), (pH, cH, LD), (pI, cI, LS), (pJ, cJ, S0), (pK, cK, LL), (pL, cL, S0)] wQ rfl rfl (HSS.out.below KPQ.out) HSQ.out (fun i hi => ?_) (fun i hi => ?_) (by decide)).mono ?_
        · match i, hi with
          | 0, _ => rfl
          | 1, _ => rfl
          | 2, _ => rfl
          | 3, _ => rfl
          | 4, _ => rfl
          | 5, _ => rfl
          | k + 6, h => exact absurd h (by omega)
        · match i, hi with
          | 0, _ => exact HLEN.out.1
          | 1, _ => exact HLEN.out.2.1
          | 2, _ => exact HLEN.out.2.2.1
          | 3, _ => exact HLEN.out.2.2.2
          | 4, _ => exact HLEN.out.1
          | 5, _ => exact HLEN.out.2.2.2
          | k + 6, h => exact absurd h (by omega)
        rintro e w8 ⟨rfl, hb8⟩
        have KP8 := Lib.hid (bl_trans KPQ.out hb8)
        clear hb8 KPQ HSQ HSS
        go_wp2_with fail
        refine (ApartRanges_any (some ⟨gP, 0, none⟩) 6 6 [DA, DB, DC, DD, DE, DF] w8 rfl (slD_below HSD.out KP8.out (fun b ⟨k, hk, e⟩ => (HRM.out k hk).lt b e)) (fun k hk => room_below (HRM.out k hk) KP8.out) (up_far HUP.out) (by omega) HNN.out).mono ?_
        rintro e w9 ⟨rfl, hb9⟩
        have HB9 : Hid (Below w2.heap.size w2 w9) := HBP.out.trans ((KP8.out.mono (Nat.le_trans HWR.out HWD.out)).trans (hb9.below (Nat.le_trans (Nat.le_trans HWR.out HWD.out) KP8.out.size) (fun k s => Nat.le_trans HWR.out (up_in HUP.out s))))
        clear hb9 KP8 HSD HRM HUP HNN
        go_wp2
        go_roundw
        case rel => exact ⟨i + 1, by have := HI.out; omega, by go_num, HB9.out⟩
        case measure => have := HI.out; simp [intOf]; omega
      · have hiI : ¬ ((i : Int) < 2) := by omega
        have HBR := Lib.hid (bl_trans HB2.out HB.out)
        go_wp2_with fail
        refine (fawake_any wr).mono ?_
        rintro e w3 ⟨rfl, hb3⟩
        have HB3 := Lib.hid (bl_trans HBR.out hb3)
        clear hb3
        go_wp2
        go_ret
        exact ⟨rfl, HB3.out⟩
end Go.Proofs.YtglgfpapackcdaaGreat
