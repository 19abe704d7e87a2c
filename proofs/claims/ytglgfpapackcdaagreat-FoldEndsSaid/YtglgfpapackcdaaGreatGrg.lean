/- fold.Canon: folds looked up before it is known that they are right. -/
/- The words' signs, folded or not: the program's and the document's. -/
/- How great tables are; the chapter's own tables; the law's awake. -/
import Derived.Test.YtglgfpapackcdaaGreatGo
import Derived.Test.YtglgfpapackcdaaGreatGrc
import Derived.Test.YtglgfpapackcdaaGreatGre
import Derived.Test.YtglgfpapackcdaaGreatGe

namespace Go.Proofs.YtglgfpapackcdaaGreat
open Go.RowKit Tnr

set_option maxHeartbeats 1600000 in
set_option maxRecDepth 100000 in
theorem fsearch_free (p : Option Addr) (c n : Nat) (d : List R) (z : Int) (w : World) (hn : n = d.length) (hp : SlR w p d) (hl : n ≤ 10000000000000) :
    Calls Tryz.prog 83 #[.slice p n c, .int .i64 z, .func (.func 84) #[] #[]] w fun e w' => ∃ k : Nat, e = .returned (.tuple #[.int .i64 (k : Nat), .bool (decide (k < n ∧ (gr d k).1 = z))]) ∧ k ≤ d.length ∧ Below w.heap.size w w' := by
  have HP := Lib.hid hp
  have HN := Lib.hid hn
  have hlI : (n : Int) ≤ 10000000000000 := by omega
  have HM := Lib.hid fcmp_any
  clear hp hn hl
  go_enter Tryz.func83, Tryz.ntmps83
  go_wp2
  go_loopw [9, 10] (fun iv jv wr => ∃ i j : Nat, i ≤ j ∧ j ≤ n ∧ iv = .int .i64 (i : Nat) ∧ jv = .int .i64 (j : Nat) ∧ Hid (Below w.heap.size w wr)) (fun iv jv _ => (intOf jv).toNat - (intOf iv).toNat)
  case atStart => exact ⟨0, n, Nat.zero_le _, Nat.le_refl _, rfl, rfl, Below.refl _ _⟩
  case round =>
    obtain ⟨i, j, hij, hj, rfl, rfl, HB⟩ := hrel
    rename World => wr
    by_cases hlt : i < j
    · have hltI : (i : Int) < j := by omega
      have hjI : (j : Int) ≤ n := by omega
      have hh1 : i ≤ (i + j) / 2 := by omega
      have hh2 : (i + j) / 2 < j := by omega
      obtain ⟨b, o, rfl, hc0, hc1⟩ := slr_at (HP.out.below HB.out) (show (i + j) / 2 < d.length by have := HN.out; omega)
      obtain ⟨x, hx⟩ : ∃ x, x = (gr d ((i + j) / 2)).1 := ⟨_, rfl⟩
      obtain ⟨y, hy⟩ : ∃ y, y = (gr d ((i + j) / 2)).2 := ⟨_, rfl⟩
      rw [← hx] at hc0
      rw [← hy] at hc1
      have HY : Hid (x = (gr d ((i + j) / 2)).1) := hx
      clear hx hy
      go_wp2_with fail
      refine (HM.out x y z wr).mono ?_
      rintro e w2 ⟨rfl, hb2⟩
      have HB2 := Lib.hid (bl_trans HB.out hb2)
      clear hb2 hc0 hc1
      by_cases hyz : x < z
      · have e1 : cmpI x z = -1 := by unfold cmpI; rw [if_pos hyz]
        rw [e1]
        clear e1 hyz
        go_wp2
        go_roundw
        case rel => exact ⟨(i + j) / 2 + 1, j, by omega, hj, by go_num, rfl, HB2.out⟩
        case measure => simp [intOf]; omega
      · have hc : 0 ≤ cmpI x z := by unfold cmpI; rw [if_neg hyz]; split <;> omega
        obtain ⟨q, hq⟩ : ∃ q, q = cmpI x z := ⟨_, rfl⟩
        rw [← hq] at hc ⊢
        clear hyz hq
        go_wp2
        go_roundw
        case rel => exact ⟨i, (i + j) / 2, hh1, by omega, rfl, by go_num, HB2.out⟩
        case measure => simp [intOf]; omega
    · have hji : j = i := by omega
      subst hji
      have HAT : Hid (j ≤ d.length) := by have := HN.out; show _ ≤ _; omega
      by_cases hjn : j < n
      · have hjI : (j : Int) < n := by omega
        obtain ⟨b, o, rfl, hc0, hc1⟩ := slr_at (HP.out.below HB.out) (show j < d.length by have := HN.out; omega)
        obtain ⟨x, hx⟩ : ∃ x, x = (gr d j).1 := ⟨_, rfl⟩
        obtain ⟨y, hy⟩ : ∃ y, y = (gr d j).2 := ⟨_, rfl⟩
        rw [← hx] at hc0
        rw [← hy] at hc1
        have HY : Hid (x = (gr d j).1) := hx
        clear hx hy hlt
        go_wp2_with fail
        refine (HM.out x y z wr).mono ?_
        rintro e w2 ⟨rfl, hb2⟩
        have HB2 := Lib.hid (bl_trans HB.out hb2)
        clear hb2 hc0 hc1
        obtain ⟨q, hq⟩ : ∃ q, q = cmpI x z := ⟨_, rfl⟩
        have HE : Hid ((q == 0) = decide (j < n ∧ (gr d j).1 = z)) := by
          show _ = _
          rw [← HY.out, hq]
          have hjn2 : j < n := by omega
          by_cases e : x = z
          · rw [decide_eq_true (show j < n ∧ x = z from ⟨hjn2, e⟩)]; unfold cmpI; rw [if_neg (by omega), if_neg (by omega)]; rfl
          · rw [decide_eq_false (fun h => e h.2)]; unfold cmpI; split
            · rfl
            · rw [if_pos (by omega)]; rfl
        rw [← hq]
        clear hq
        go_wp2
        refine bodyPost_ret (v := .tuple #[.int .i64 (j : Nat), .bool (q == 0)]) (by simp [results, Tryz.f83, go_sem]) rfl ⟨j, by rw [← HE.out], HAT.out, HB2.out⟩
      · have hjI : (n : Int) ≤ j := by omega
        have HE : Hid (decide (j < n ∧ (gr d j).1 = z) = false) := decide_eq_false (fun h => hjn h.1)
        clear hlt
        go_wp2
        refine bodyPost_ret (v := .tuple #[.int .i64 (j : Nat), .bool false]) (by simp [results, Tryz.f83, go_sem]) rfl ⟨j, by rw [HE.out], HAT.out, HB.out⟩


set_option maxHeartbeats 1600000 in
set_option maxRecDepth 100000 in
theorem ffold_free (pf pp : Option Addr) (cf cp n m : Nat) (F : List R) (c : Int) (w : World) (hn : n = F.length) (hp : SlR w pf F) (hl : n ≤ 10000000000000) :
    Calls Tryz.prog 56 #[.agg #[.slice pf n cf, .slice pp m cp], .int .i64 c] w fun e w' => (∃ (t : Int) (b : Bool), e = .returned (.tuple #[.int .i64 t, .bool b]) ∧ (Rise F → t = (look F c).getD 0 ∧ b = (look F c).isSome)) ∧ Below w.heap.size w w' := by
  by_cases hs : Rise F
  · refine (ffold_any pf pp cf cp n m F c w hn hp hs hl).mono ?_
    rintro e w' ⟨h1, h2⟩
    exact ⟨⟨_, _, h1, fun _ => ⟨rfl, rfl⟩⟩, h2⟩
  have hb1 : Below w.heap.size w (w.alloc (.cells #[.slice pf n cf, .slice pp m cp] 69)) := bl_alloc _ _
  have hbx : (w.alloc (.cells #[.slice pf n cf, .slice pp m cp] 69)).cell? ⟨w.heap.size, 0, none⟩ = some (.slice pf n cf) := by rw [World.cell?_alloc_at _ _ _ _ rfl]; rfl
  have HBX := Lib.hid hbx
  have HSR := Lib.hid (fsearch_free pf cf n F c (w.alloc (.cells #[.slice pf n cf, .slice pp m cp] 69)) hn (hp.below hb1) hl)
  have HP := Lib.hid (hp.below hb1)
  have HN := Lib.hid hn
  have HS : Hid (¬ Rise F) := hs
  have HB1 := Lib.hid hb1
  have hnI : (n : Int) ≤ 10000000000000 := by omega
  clear hn hp hs hl hb1 hbx
  go_enter Tryz.func56, Tryz.ntmps56
  go_wp2_with fail
  refine HSR.out.mono ?_
  rintro e w2 ⟨k, rfl, hat, hb2⟩
  have HB2 := Lib.hid (bl_trans HB1.out hb2)
  have hbx2 : w2.cell? ⟨w.heap.size, 0, none⟩ = some (.slice pf n cf) := by rw [hb2.cell (World.block_lt_of_cell? _ _ HBX.out)]; exact HBX.out
  have HP2 := Lib.hid (HP.out.below hb2)
  clear hat hb2 HSR HP HBX HB1
  by_cases hk : k < n ∧ (gr F k).1 = c
  · have hkI : (k : Int) < n := by omega
    have hD : decide (k < n ∧ (gr F k).1 = c) = true := decide_eq_true hk
    obtain ⟨b, o, rfl, hc1, hc2⟩ := slr_at HP2.out (show k < F.length by rw [← HN.out]; exact hk.1)
    obtain ⟨t, ht⟩ : ∃ x, x = (gr F k).2 := ⟨_, rfl⟩
    rw [← ht] at hc2
    rw [hD]
    clear hD hk ht hc1
    go_wp2
    refine bodyPost_ret (v := .tuple #[.int .i64 t, .bool true]) (by simp [results, Tryz.f56, go_sem]) rfl ⟨⟨_, _, rfl, fun h => absurd h HS.out⟩, HB2.out⟩
  · have hD : decide (k < n ∧ (gr F k).1 = c) = false := decide_eq_false hk
    rw [hD]
    clear hD hk
    go_wp2
    refine bodyPost_ret (v := .tuple #[.int .i64 0, .bool false]) (by simp [results, Tryz.f56, go_sem]) rfl ⟨⟨_, _, rfl, fun h => absurd h HS.out⟩, HB2.out⟩
open Classical in
noncomputable def canonF (F : List R) (xs : List PV) (c : Int) : Int := if TR F xs then (look F c).getD c else c
set_option maxHeartbeats 1600000 in
set_option maxRecDepth 100000 in
theorem fcanon_any (HPO : PropsOk) (pf pp : Option Addr) (cf cp n m : Nat) (F : List R) (xs : List PV) (c : Int) (w : World) (h : Tab w pf n pp m F xs) :
    Calls Tryz.prog 19 #[.agg #[.slice pf n cf, .slice pp m cp], .int .i64 c] w fun e w' => e = .returned (.int .i64 (canonF F xs c)) ∧ Below w.heap.size w w' := by
  obtain ⟨W0, hW0⟩ : ∃ W, W = (w.alloc (.cells #[.slice pf n cf, .slice pp m cp] 30)).alloc (.cells #[.slice pf n cf, .slice pp m cp] 69) := ⟨_, rfl⟩
  have hb0 : Below w.heap.size w W0 := by rw [hW0]; exact bl_trans (bl_alloc w _) (bl_alloc _ _)
  have h2 : BoxT W0 (w.heap.size + 1) pf n cf pp m cp := by
    have q := BoxT.new (w.alloc (.cells #[.slice pf n cf, .slice pp m cp] 30)) pf n cf pp m cp
    rw [show (w.alloc (.cells #[.slice pf n cf, .slice pp m cp] 30)).heap.size = w.heap.size + 1 by simp, ← hW0] at q
    exact q
  have h0 := h.below hb0
  have HFF := Lib.hid (ffold_free pf pp cf cp n m F c W0 h0.fl h0.fs h0.fb)
  have HB0 := Lib.hid hb0
  have H0 := Lib.hid h0
  have H2 := Lib.hid h2
  have HPH := Lib.hid HPO
  rw [hW0] at HFF
  clear h HPO h0 h2 hb0
  go_enter Tryz.func19, Tryz.ntmps19
  go_wp2_with fail
  refine HFF.out.mono ?_
  rw [← hW0]
  rintro e w2 ⟨⟨t, b, rfl, htb⟩, hb2⟩
  have h2 := H2.out.below hb2
  have c0 := h2.c0
  have c1 := h2.c1
  have HB2 := Lib.hid (bl_trans HB0.out hb2)
  have HTB := Lib.hid htb
  have HRG := Lib.hid (tright_any HPH.out pf pp cf cp n m F xs w2 (H0.out.below hb2))
  clear htb hb2 hW0 HFF
  cases b with
  | false =>
    have HV : Hid (canonF F xs c = c) := by
      show _ = _
      unfold canonF
      split
      · next htr => have := (HTB.out htr.1.2.1).2; cases e : look F c with
        | none => rfl
        | some _ => rw [e] at this; cases this
      · rfl
    clear h2 c0 c1 HRG
    go_wp2
    go_ret
    exact ⟨by rw [HV.out]; rfl, HB2.out⟩
  | true =>
    clear h2
    go_wp2_with fail
    refine HRG.out.mono ?_
    rintro e w3 ⟨u, rfl, hu, hb3⟩
    have HB3 := Lib.hid (bl_trans HB2.out hb3)
    cases u with
    | false =>
      have HV : Hid (canonF F xs c = c) := by
        show _ = _
        unfold canonF
        rw [if_neg (fun h => by have := hu.2 h; cases this)]
      clear hu hb3 c0 c1 HRG
      go_wp2
      go_ret
      exact ⟨by rw [HV.out]; rfl, HB3.out⟩
    | true =>
      have HV : Hid (canonF F xs c = t) := by
        show _ = _
        have htr := hu.1 rfl
        unfold canonF
        rw [if_pos htr]
        have h1 := HTB.out htr.1.2.1
        cases e : look F c with
        | none => rw [e] at h1; cases h1.2
        | some q => rw [e] at h1; exact h1.1.symm
      clear hu hb3 c0 c1 HRG
      go_wp2
      go_ret
      exact ⟨by rw [HV.out]; rfl, HB3.out⟩
end Go.Proofs.YtglgfpapackcdaaGreat


namespace Go.Proofs.YtglgfpapackcdaaGreat
open Go.RowKit Tnr

def wordsS (F : List R) (t fo : Bool) : List R := if fo = true then (if t = true then clo F wordsL else cn wordsL) else wordsL
theorem flat_w (p : Option Addr) (c : Nat) : flat [(p, c, wordsL)] = wordsL := by simp [flat]
theorem fclose_t (pf pp q : Option Addr) (cf cp cq n m k : Nat) (F : List R) (ps : List PV) (xs : List SV) (t : Bool) (w : World) (ht : t = true ↔ TR F ps) (h : Tab w pf n pp m F ps) (hx : SlS w q xs) (hk : k = xs.length) (hfl : (flat xs).length ≤ 20000000) (hkk : k ≤ 20000000) :
    Calls Tryz.prog 16 #[.agg #[.slice pf n cf, .slice pp m cp], .slice q k cq] w (Tells w (if t = true then clo F (flat xs) else cn (flat xs))) := by
  refine (fclose_any pf pp q cf cp cq n m k F ps xs w h hx hk hfl hkk).mono ?_
  rintro e w' ⟨S, hS, hT⟩
  have : S = if t = true then clo F (flat xs) else cn (flat xs) := by
    rcases hS with ⟨h1, h2⟩ | ⟨h1, h2⟩
    · rw [if_pos (ht.2 h1), h2]
    · rw [if_neg (fun h => h1 (ht.1 h)), h2]
  rw [← this]; exact hT
theorem rright_t (pf pp : Option Addr) (cf cp n m : Nat) (F : List R) (xs : List PV) (t : Bool) (w : World) (ht : t = true ↔ TR F xs) (h : Tab w pf n pp m F xs) (hpn : ∀ x ∈ xs, x.1.size ≤ 1000000000) :
    Calls Tryz.prog 18 #[.agg #[.slice pf n cf, .slice pp m cp]] w fun e w' => e = .returned (.bool t) ∧ Below w.heap.size w w' := by
  refine (rfright_any pf pp cf cp n m F xs w h hpn).mono ?_
  rintro e w' ⟨u, rfl, hu, hb⟩
  have : u = t := by
    cases u <;> cases t <;> first | rfl | exact absurd (ht.2 (hu.1 rfl)) (by decide) | exact absurd (hu.2 (ht.1 rfl)) (by decide)
  rw [this]; exact ⟨rfl, hb⟩
theorem rclose_t (pf pp q : Option Addr) (cf cp cq n m k : Nat) (F : List R) (ps : List PV) (xs : List SV) (t : Bool) (w : World) (ht : t = true ↔ TR F ps) (h : Tab w pf n pp m F ps) (hpn : ∀ x ∈ ps, x.1.size ≤ 1000000000) (hx : SlS w q xs) (hk : k = xs.length) (hfl : (flat xs).length ≤ 1200000) (hkk : k ≤ 1200000) :
    Calls Tryz.prog 17 #[.agg #[.slice pf n cf, .slice pp m cp], .slice q k cq] w (Tells w (if t = true then clo F (flat xs) else cn (flat xs))) :=
  rclose_any pf pp q cf cp cq n m k F xs t w h.fl h.fs hx hk (fun h1 => Nat.le_trans (fr_length (ht.1 h1).1) (by decide)) hfl hkk (fun h1 f hf => by
    obtain ⟨j, hj, rfl⟩ := mem_gr hf
    exact ((ht.1 h1).1.1 j hj).2) (fun W hb => rright_t pf pp cf cp n m F ps t W ht (h.below hb) hpn)

set_option maxHeartbeats 1600000 in
set_option maxRecDepth 100000 in
theorem fwords_any (pf pp : Option Addr) (cf cp n m : Nat) (F : List R) (ps : List PV) (t fo : Bool) (w : World) (ht : t = true ↔ TR F ps) (h : Tab w pf n pp m F ps) :
    Calls Tryz.prog 35 #[.agg #[.slice pf n cf, .slice pp m cp], .bool fo] w (Tells w (wordsS F t fo)) := by
  obtain ⟨w1, hw1⟩ : ∃ W, W = w.alloc (.cells #[.slice pf n cf, .slice pp m cp] 30) := ⟨_, rfl⟩
  have hb1 : Below w.heap.size w w1 := by rw [hw1]; exact bl_alloc _ _
  have hcell0 : w1.cell? ⟨w.heap.size, 0, none⟩ = some (.slice pf n cf) := by rw [hw1, World.cell?_alloc_at _ _ _ _ rfl]; rfl
  have hcell1 : w1.cell? ⟨w.heap.size, 1, none⟩ = some (.slice pp m cp) := by rw [hw1, World.cell?_alloc_at _ _ _ _ rfl]; rfl
  obtain ⟨w2, hw2⟩ : ∃ W, W = w1.alloc (.cells #[.int .i64 48, .int .i64 57, .int .i64 65, .int .i64 90, .int .i64 95, .int .i64 95, .int .i64 97, .int .i64 122] 24) := ⟨_, rfl⟩
  have hb2 : Below w1.heap.size w1 w2 := by rw [hw2]; exact bl_alloc _ _
  have hown : OwnR w2 w1.heap.size (.slice (some ⟨w1.heap.size, 0, none⟩) 4 4) wordsL := by
    rw [hw2]; exact ownR_new (Nat.le_refl _) rfl rfl (by decide)
  have hd0 := keep_cell hb2 hcell0
  have hd1 := keep_cell hb2 hcell1
  have HB := Lib.hid (bl_trans hb1 hb2)
  have HOW := Lib.hid hown
  have hs1 : w1.heap.size = w.heap.size + 1 := by rw [hw1]; simp
  have HSL : Hid (SlS (w2.alloc (.cells #[.slice (some ⟨w1.heap.size, 0, none⟩) 4 4] 25)) (some ⟨w2.heap.size, 0, none⟩) [(some ⟨w1.heap.size, 0, none⟩, 4, wordsL)]) := sls_new (fun x hx => by
    simp only [List.mem_singleton] at hx
    subst hx
    exact tells_sl (p := some ⟨w1.heap.size, 0, none⟩) (c := 4) (w := w1) hown) rfl
  have hbl := bl_alloc w2 (.cells #[.slice (some ⟨w1.heap.size, 0, none⟩) 4 4] 25)
  have h0 := (fclose_t pf pp (some ⟨w2.heap.size, 0, none⟩) cf cp 1 n m 1 F ps [(some ⟨w1.heap.size, 0, none⟩, 4, wordsL)] t _ ht ((h.below HB.out).below hbl) HSL.out rfl (by rw [flat_w]; decide) (by decide))
  rw [flat_w, show (if t = true then clo F wordsL else cn wordsL) = wordsS F t true from rfl] at h0
  have HJ := Lib.hid h0
  have HB3 := Lib.hid (bl_trans HB.out hbl)
  have hs2 : w2.heap.size = w.heap.size + 2 := by rw [hw2]; simp [hs1]
  rw [hs2, hs1, hw2, hw1] at HJ
  rw [hs1, hw2, hw1] at HB3
  rw [hs1] at HOW
  rw [hw2, hw1] at HOW hd0 hd1 HB
  clear h hb1 hb2 hcell0 hcell1 hown HSL hbl hw2 ht h0
  go_enter Tryz.func35, Tryz.ntmps35
  cases fo with
  | true =>
    generalize wordsS F t true = S at HJ ⊢
    go_wp2_with fail
    refine HJ.out.mono ?_
    rintro e w5 ⟨q5, c5, rfl, ho, hb⟩
    have HO := Lib.hid ho
    have HBB := Lib.hid hb
    clear ho hb
    go_wp2
    go_ret
    exact ⟨q5, c5, rfl, ownR_mono HO.out HB3.out.size, bl_trans HB3.out HBB.out⟩
  | false =>
    go_wp2
    go_ret
    exact ⟨some ⟨w.heap.size + 1, 0, none⟩, 4, rfl, ownR_mono HOW.out (Nat.le_succ _), HB.out⟩

set_option maxHeartbeats 1600000 in
set_option maxRecDepth 100000 in
theorem rwords_any (pf pp : Option Addr) (cf cp n m : Nat) (F : List R) (ps : List PV) (t fo : Bool) (w : World) (ht : t = true ↔ TR F ps) (h : Tab w pf n pp m F ps) (hpn : ∀ x ∈ ps, x.1.size ≤ 1000000000) :
    Calls Tryz.prog 39 #[.agg #[.slice pf n cf, .slice pp m cp], .bool fo] w (Tells w (wordsS F t fo)) := by
  obtain ⟨S, hS⟩ : ∃ S, S = wordsS F t fo := ⟨_, rfl⟩
  rw [← hS]
  have HS := Lib.hid hS
  clear hS
  obtain ⟨w1, hw1⟩ : ∃ W, W = w.alloc (.cells #[.slice pf n cf, .slice pp m cp] 30) := ⟨_, rfl⟩
  have hb1 : Below w.heap.size w w1 := by rw [hw1]; exact bl_alloc _ _
  have hc0 : w1.cell? ⟨w.heap.size, 0, none⟩ = some (.slice pf n cf) := by rw [hw1, World.cell?_alloc_at _ _ _ _ rfl]; rfl
  have hc1 : w1.cell? ⟨w.heap.size, 1, none⟩ = some (.slice pp m cp) := by rw [hw1, World.cell?_alloc_at _ _ _ _ rfl]; rfl
  have HL := Lib.hid (rlit 8 4 [48, 57, 65, 90, 95, 95, 97, 122] _ w1 rfl rfl rfl (by omega))
  have hs1 : w1.heap.size = w.heap.size + 1 := by rw [hw1]; simp
  have HT := Lib.hid (h.below hb1)
  have HB1 := Lib.hid hb1
  have HH := Lib.hid (And.intro ht hpn)
  rw [hs1, hw1] at HL
  clear h hb1 hpn ht
  go_enter Tryz.func39, Tryz.ntmps39
  go_wp2_with fail
  refine HL.out.mono ?_
  rw [← hw1]
  rintro e w2 ⟨q2, c2, he, ho, hb⟩
  have e4 : twos [48, 57, 65, 90, 95, 95, 97, 122] 4 = wordsL := rfl
  rw [e4] at he ho
  obtain rfl : e = .returned (.slice q2 4 c2) := he
  replace hc0 := keep_cell hb hc0
  replace hc1 := keep_cell hb hc1
  have HT2 := Lib.hid (HT.out.below hb)
  have HO2 := Lib.hid ho
  have HB2 := Lib.hid (bl_trans HB1.out hb)
  have HSL : Hid (SlS (w2.alloc (.cells #[.slice q2 4 c2] 25)) (some ⟨w2.heap.size, 0, none⟩) [(q2, c2, wordsL)]) := sls_new (fun x hx => by
    simp only [List.mem_singleton] at hx
    subst hx
    exact tells_sl (p := q2) (c := c2) (w := w1) ho) rfl
  have hbl := bl_alloc w2 (.cells #[.slice q2 4 c2] 25)
  have h0 := (rclose_t pf pp (some ⟨w2.heap.size, 0, none⟩) cf cp 1 n m 1 F ps [(q2, c2, wordsL)] t _ HH.out.1 (HT2.out.below hbl) HH.out.2 HSL.out rfl (by rw [flat_w]; decide) (by decide))
  rw [flat_w, show (if t = true then clo F wordsL else cn wordsL) = wordsS F t true from rfl] at h0
  have HJ := Lib.hid h0
  have HB3 := Lib.hid (bl_trans HB2.out hbl)
  have HZ1 : Hid (w.heap.size ≤ w1.heap.size) := HB1.out.size
  clear ho hb hbl HSL hw1 HL HT h0
  cases fo with
  | true =>
    have HS2 := HS.out
    rw [← HS2] at HJ
    clear HS2
    go_wp2_with fail
    refine HJ.out.mono ?_
    rintro e w5 ⟨q5, c5, rfl, ho, hb⟩
    have HO := Lib.hid ho
    have HBB := Lib.hid hb
    clear ho hb
    go_wp2
    go_ret
    exact ⟨q5, c5, rfl, ownR_mono HO.out HB3.out.size, bl_trans HB3.out HBB.out⟩
  | false =>
    go_wp2
    go_ret
    obtain rfl : S = wordsL := HS.out
    exact ⟨q2, c2, rfl, ownR_mono HO2.out HZ1.out, HB2.out⟩
end Go.Proofs.YtglgfpapackcdaaGreat


namespace Go.Proofs.YtglgfpapackcdaaGreat
open Go.RowKit Tnr

theorem cast_min (a b : Nat) : ((min a b : Nat) : Int) = min (a : Int) (b : Int) := by
  rw [Nat.min_def, Int.min_def]; split <;> split <;> omega
theorem rangesOf_any (q : Option Addr) (c k : Nat) (w : World) : Calls Tryz.prog 41 #[.slice q k c, .int .i64 120] w fun e w' => e = .returned (.int .i64 ((min k 121 : Nat) : Int)) ∧ w' = w := by
  go_enter Tryz.func41, Tryz.ntmps41
  go_wp2
  go_ret
  exact ⟨by rw [cast_min]; rfl, rfl⟩
def Small (xs : List PV) (k : Nat) : Prop := ∀ j, j < k → (gp xs j).1.size ≤ 1000 ∧ (gp xs j).2.2.2.length ≤ 120

set_option maxHeartbeats 3200000 in
set_option maxRecDepth 100000 in
theorem tablesOf_any (pf pp : Option Addr) (cf cp n m : Nat) (xs : List PV) (w : World) (hm : m = xs.length) (hmI : (m : Int) ≤ 100000000000000) (hp : SlP w pp xs) (hz : ∀ x ∈ xs, x.1.size ≤ 9223372036854775807 ∧ x.2.2.2.length ≤ 9223372036854775807) :
    Calls Tryz.prog 10 #[.agg #[.slice pf n cf, .slice pp m cp], .int .i64 120] w fun e w' => ∃ z : Nat, e = .returned (.int .i64 (z : Nat)) ∧ (z ≤ 120 → m ≤ 120 ∧ Small xs m) ∧ Below w.heap.size w w' := by
  have hb1 : Below w.heap.size w (w.alloc (.cells #[.slice pf n cf, .slice pp m cp] 30)) := bl_alloc _ _
  have hc0 : (w.alloc (.cells #[.slice pf n cf, .slice pp m cp] 30)).cell? ⟨w.heap.size, 0, none⟩ = some (.slice pf n cf) := by rw [World.cell?_alloc_at _ _ _ _ rfl]; rfl
  have hc1 : (w.alloc (.cells #[.slice pf n cf, .slice pp m cp] 30)).cell? ⟨w.heap.size, 1, none⟩ = some (.slice pp m cp) := by rw [World.cell?_alloc_at _ _ _ _ rfl]; rfl
  have HP := Lib.hid (hp.below hb1)
  have HB1 := Lib.hid hb1
  have HM := Lib.hid hm
  have HZ := Lib.hid hz
  clear hp hm hz hb1
  obtain ⟨z0, hz0⟩ : ∃ z0 : Nat, z0 = min n 120 := ⟨_, rfl⟩
  have HZ0 : Hid (z0 ≤ 120) := by rw [hz0]; exact Nat.min_le_right _ _
  obtain ⟨w1, hw1⟩ : ∃ W, W = w.alloc (.cells #[.slice pf n cf, .slice pp m cp] 30) := ⟨_, rfl⟩
  have HZE : Hid (((z0 : Nat) : Int) = min (n : Int) 120) := by rw [hz0]; exact cast_min n 120
  clear hz0
  rw [← hw1] at HP HB1 hc0 hc1
  go_enter Tryz.func10, Tryz.ntmps10
  have hnz : (z0 : Int) ≤ 120 := by have := HZ0.out; omega
  go_wp2
  rw [← hw1]
  clear hw1
  generalize hbt : w.heap.size = bt at hc0 hc1 ⊢
  go_loopw [5, 6] (fun zv iv wr => ∃ (i z r : Nat), i ≤ m ∧ zv = .int .i64 (z : Nat) ∧ iv = .int .i64 (i : Nat) ∧ (z : Int) ≤ 2000000000000000000 ∧ Hid (z ≤ 120 → Small xs i) ∧ Hid (i ≤ z) ∧ wr = w1.drewN r) (fun _ iv _ => m - (intOf iv).toNat)
  case atStart => exact ⟨0, z0, 0, Nat.zero_le _, by rw [HZE.out], rfl, by omega, fun _ j hj => absurd hj (by omega), Nat.zero_le _, rfl⟩
  case round =>
    obtain ⟨i, z, r, hi, rfl, rfl, hzb, HS, HIZ, rfl⟩ := hrel
    by_cases hin : i < m
    · have hiI : (i : Int) < m := by omega
      by_cases hz1 : z ≤ 120
      · have hzI1 : (z : Int) ≤ 120 := by omega
        have hiL : i < xs.length := by have := HM.out; omega
        obtain ⟨bb, o, rfl, hd0, hd1⟩ := slp_at HP.out hiL
        have hszx := HZ.out (gp xs i) (by rw [gp_get hiL]; exact List.getElem_mem _)
        have HSM : Hid ((gp xs i).1.size ≤ 1000 ∧ (gp xs i).2.2.2.length ≤ 120 → Small xs (i + 1)) := fun h j hj => by
          by_cases e : j = i
          · subst e; exact h
          · exact HS.out hz1 j (by omega)
        generalize (gp xs i).1 = nm at *
        generalize (gp xs i).2.1 = q at *
        generalize (gp xs i).2.2.1 = c at *
        obtain ⟨k, hk⟩ : ∃ k, k = (gp xs i).2.2.2.length := ⟨_, rfl⟩
        rw [← hk] at hd1 hszx HSM
        have hsI : (nm.size : Int) ≤ 9223372036854775807 := by have := hszx.1; omega
        have hq1 : (nm.size : Int) / 8 = ((nm.size / 8 : Nat) : Int) := by omega
        have hq2 : (nm.size : Int).tdiv 8 = ((nm.size / 8 : Nat) : Int) := by rw [Int.tdiv_eq_ediv_of_nonneg (by omega)]; exact hq1
        obtain ⟨q8, hq8⟩ : ∃ q8, q8 = nm.size / 8 := ⟨_, rfl⟩
        rw [← hq8] at hq1 hq2
        have hq9 : (q8 : Int) ≤ 1152921504606846976 := by omega
        obtain ⟨k1, hk1⟩ : ∃ k1, k1 = min k 121 := ⟨_, rfl⟩
        have hk2 : (k1 : Int) ≤ 121 := by rw [hk1]; have := Nat.min_le_right k 121; omega
        have HRO : Hid (∀ s, Calls Tryz.prog 41 #[.slice q k c, .int .i64 120] (w1.drewN s) fun e w' => e = .returned (.int .i64 (k1 : Nat)) ∧ w' = w1.drewN s) := fun s => by
          rw [hk1]; exact rangesOf_any q c k _
        have HF : Hid (z + 1 + q8 + k1 ≤ 120 → Small xs (i + 1)) := fun h => HSM.out ⟨by omega, by rw [hk1] at h; omega⟩
        have HI := Lib.hid hin
        have HZ1 := Lib.hid hz1
        clear hszx hk hk1 hq8
        have hw1a : IntKind.i64.wrap ((z : Int) + 1) = (z : Int) + 1 := by rw [IntKind.wrap_i64]; omega
        have hw1b : IntKind.i64.wrap ((z : Int) + 1 + (q8 : Int)) = (z : Int) + 1 + (q8 : Int) := by rw [IntKind.wrap_i64]; omega
        have hw1c : IntKind.i64.wrap ((z : Int) + 1 + (q8 : Int) + (k1 : Int)) = (z : Int) + 1 + (q8 : Int) + (k1 : Int) := by rw [IntKind.wrap_i64]; omega
        have HIZ2 : Hid (i + 1 ≤ z + 1 + q8 + k1) := by have := HIZ.out; show _ ≤ _; omega
        have hzb2 : ((z + 1 + q8 + k1 : Nat) : Int) ≤ 2000000000000000000 := by omega
        go_wp2
        go_quiet (first | (go_at_call 41; with_reducible exact (HRO.out _).mono fun _ _ h => ⟨h.1, _, h.2⟩))
        go_wp2
        go_roundw
        case rel => exact ⟨i + 1, z + 1 + q8 + k1, _, by have := HI.out; omega, by simp, by go_num, hzb2, HF.out, HIZ2.out, by first | rfl | exact World.drewN_drewN _ _ _⟩
        case measure => have := HI.out; simp [intOf]; omega
      · have hzI1 : ¬ ((z : Int) ≤ 120) := by omega
        have HBB : Hid (Below bt w (w1.drewN r)) := by rw [← hbt]; exact bl_trans HB1.out (drewN_below _ _)
        go_wp2
        go_ret
        exact ⟨z, rfl, fun h => absurd h hz1, HBB.out⟩
    · have hiI : ¬ ((i : Int) < m) := by omega
      have hin2 : i = m := by omega
      have HFI : Hid (z ≤ 120 → m ≤ 120 ∧ Small xs m) := fun h => ⟨by have := HIZ.out; omega, by rw [← hin2]; exact HS.out h⟩
      have HBB : Hid (Below bt w (w1.drewN r)) := by rw [← hbt]; exact bl_trans HB1.out (drewN_below _ _)
      go_wp2
      go_ret
      exact ⟨z, rfl, HFI.out, HBB.out⟩
end Go.Proofs.YtglgfpapackcdaaGreat

