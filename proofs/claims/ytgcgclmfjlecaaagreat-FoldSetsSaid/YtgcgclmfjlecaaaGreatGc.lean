/- Folds, plainly: what a table finds; the walk of the document's to. -/
import Derived.Test.YtgcgclmfjlecaaaGreatGb

namespace Go.Proofs.YtgcgclmfjlecaaaGreat
open Go.RowKit Tnr

/-- the To of the fold of a number. -/
def look (F : List R) (c : Int) : Option Int := (F.find? fun f => f.1 == c).map (·.2)
/-- folds that rise. -/
def Rise (F : List R) : Prop := ∀ i j, i < j → j < F.length → (gr F i).1 < (gr F j).1
theorem look_none {F : List R} {c : Int} (h : ∀ i, i < F.length → (gr F i).1 ≠ c) : look F c = none := by
  unfold look
  rw [List.find?_eq_none.2]
  · rfl
  · intro f hf
    obtain ⟨i, hi, rfl⟩ := mem_gr hf
    simpa using h i hi
theorem look_some {F : List R} {c : Int} {i : Nat} (hr : Rise F) (hi : i < F.length) (h : (gr F i).1 = c) : look F c = some (gr F i).2 := by
  unfold look
  cases hf : F.find? fun f => f.1 == c with
  | none =>
    exfalso
    have := List.find?_eq_none.1 hf (gr F i) (gr_mem hi)
    simp [h] at this
  | some f =>
    have h1 := List.find?_some hf
    obtain ⟨j, hj, rfl⟩ := mem_gr (List.mem_of_find?_eq_some hf)
    have h2 : (gr F j).1 = c := by simpa using h1
    have : i = j := by
      rcases Nat.lt_trichotomy i j with hlt | heq | hgt
      · have := hr i j hlt hj; omega
      · exact heq
      · have := hr j i hgt hi; omega
    subst this; rfl

set_option maxHeartbeats 3200000 in
set_option maxRecDepth 100000 in
theorem rto_any (pf pp : Option Addr) (cf cp n m : Nat) (F : List R) (c : Int) (w : World) (hn : n = F.length) (hp : SlR w pf F) (hs : Rise F) (hl : n ≤ 10000000000000) :
    Calls Tryz.prog 66 #[.agg #[.slice pf n cf, .slice pp m cp], .int .i64 c] w fun e w' => e = .returned (.tuple #[.int .i64 ((look F c).getD 0), .bool (look F c).isSome]) ∧ Below w.heap.size w w' := by
  have HP := Lib.hid (hp.below (bl_alloc w (.cells #[.slice pf n cf, .slice pp m cp] 25)))
  have HN := Lib.hid hn
  have HS := Lib.hid hs
  have hnI : (n : Int) ≤ 10000000000000 := by omega
  have HB := Lib.hid (bl_alloc w (.cells #[.slice pf n cf, .slice pp m cp] 25))
  have hb0 : (w.alloc (.cells #[.slice pf n cf, .slice pp m cp] 25)).cell? ⟨w.heap.size, 0, none⟩ = some (.slice pf n cf) := by rw [World.cell?_alloc_at _ _ _ _ rfl]; rfl
  clear hn hp hs hl
  go_enter Tryz.func66, Tryz.ntmps66
  go_wp2
  go_quiet (fail)
  go_wp2
  obtain ⟨ws, hws⟩ : ∃ ws, ws = (w.alloc (.cells #[.slice pf n cf, .slice pp m cp] 25)).drewN nq := ⟨_, rfl⟩
  rw [← hws]
  have hb1 : ws.cell? ⟨w.heap.size, 0, none⟩ = some (.slice pf n cf) := by rw [hws]; simp
  have HB2 : Hid (Below w.heap.size w ws) := by rw [hws]; exact bl_trans HB.out (drewN_below _ _)
  have HP2 : Hid (SlR ws pf F) := by rw [hws]; exact HP.out.below (drewN_below _ _)
  clear hws hb0 HB HP
  generalize w.heap.size = bt at hb1 ⊢
  go_loop [6, 7] (fun lv hv => ∃ (lo hi : Nat), lo ≤ hi ∧ hi ≤ n ∧ lv = .int .i64 (lo : Nat) ∧ hv = .int .i64 (hi : Nat) ∧ Hid (∀ i, i < lo → (gr F i).1 < c) ∧ Hid (∀ i, hi ≤ i → i < n → c < (gr F i).1)) (fun lv hv => (intOf hv).toNat - (intOf lv).toNat)
  case atStart => exact ⟨0, n, Nat.zero_le _, Nat.le_refl _, rfl, rfl, (fun i h => absurd h (Nat.not_lt_zero i)), (fun i h1 h2 => by omega)⟩
  case round =>
    obtain ⟨lo, hi, hlh, hhn, rfl, rfl, HLO, HHI⟩ := hrel
    by_cases hlt : lo < hi
    · have hltI : (lo : Int) < hi := by omega
      obtain ⟨mid, hmid⟩ : ∃ mid, mid = (lo + hi) / 2 := ⟨_, rfl⟩
      have hm1 : lo ≤ mid := by omega
      have hm2 : mid < hi := by omega
      have hq1 : ((lo : Int) + (hi : Int)) / 2 = (mid : Int) := by omega
      have hq2 : ((lo : Int) + (hi : Int)).tdiv 2 = (mid : Int) := by rw [Int.tdiv_eq_ediv_of_nonneg (by omega)]; exact hq1
      have hw1 : IntKind.i64.wrap ((lo : Int) + (hi : Int)) = (lo : Int) + (hi : Int) := by rw [IntKind.wrap_i64]; omega
      have hmI : (mid : Int) < n := by omega
      have hmN : mid < F.length := by have := HN.out; omega
      obtain ⟨b, o, rfl, hc1, hc2⟩ := slr_at HP2.out hmN
      have HF : Hid ((gr F mid).1 = c → look F c = some (gr F mid).2) := fun e => look_some HS.out hmN e
      have HLT : Hid (∀ i, i < mid → (gr F i).1 < (gr F mid).1) := fun i h => HS.out i mid h hmN
      have HGT : Hid (∀ i, mid < i → i < n → (gr F mid).1 < (gr F i).1) := fun i h h2 => HS.out mid i h (by have := HN.out; omega)
      obtain ⟨f, hf⟩ : ∃ x, x = (gr F mid).1 := ⟨_, rfl⟩
      obtain ⟨t, ht⟩ : ∃ x, x = (gr F mid).2 := ⟨_, rfl⟩
      rw [← hf] at hc1 HF HLT HGT
      rw [← ht] at hc2 HF
      have HFD := Lib.hid hf
      have HM := Lib.hid (And.intro hm1 hm2)
      have HLH := Lib.hid (And.intro hlt hhn)
      clear hmid hm1 hm2 hmN hf ht hlt hlh hhn
      by_cases h1 : f = c
      · have HK := Lib.hid (HF.out h1)
        have d1 : (f == c) = true := by simp [h1]
        subst h1
        go_wp2
        refine bodyPost_ret (v := .tuple #[.int .i64 t, .bool true]) (by simp [results, Tryz.results66, go_sem]) rfl ?_
        exact ⟨by rw [HK.out]; rfl, HB2.out⟩
      · have d1 : (f == c) = false := by simp [h1]
        by_cases h2 : f < c
        · go_wp2
          go_round
          case rel => exact ⟨mid + 1, hi, by have := HM.out; omega, HLH.out.2, by go_num, rfl, (fun i h => by
            by_cases e : i = mid
            · subst e; rw [← HFD.out]; exact h2
            · have := HLT.out i (by omega); omega), HHI.out⟩
          case measure => have := HM.out; have := HLH.out; simp [intOf]; omega
        · have h3 : c < f := by omega
          go_wp2
          go_round
          case rel => exact ⟨lo, mid, HM.out.1, by have := HM.out; have := HLH.out; omega, rfl, rfl, HLO.out, (fun i h h4 => by
            by_cases e : i = mid
            · subst e; rw [← HFD.out]; exact h3
            · have := HGT.out i (by omega) h4; omega)⟩
          case measure => have := HM.out; have := HLH.out; simp [intOf]; omega
    · have hltI : (hi : Int) ≤ lo := by omega
      have hl : look F c = none := look_none fun i hi2 => by
        have hn2 := HN.out
        rcases Nat.lt_or_ge i lo with h | h
        · have := HLO.out i h; omega
        · have := HHI.out i (by omega) (by omega); omega
      have HK := Lib.hid hl
      clear hl
      go_wp2
      refine bodyPost_ret (v := .tuple #[.int .i64 0, .bool false]) (by simp [results, Tryz.results66, go_sem]) rfl ?_
      exact ⟨by rw [HK.out]; rfl, HB2.out⟩
end Go.Proofs.YtgcgclmfjlecaaaGreat
