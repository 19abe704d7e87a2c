/- The walk of begun's sort: places in the order in which they begin. -/
import Derived.Test.YtpiknmnhcpjfaaaGreatLw
import Derived.Sort.OwnSortedInts
namespace Go.Proofs.YtpiknmnhcpjfaaaGreat
open Go.RowKit Tnr Tnt Go.Sort Go.Shelf

/-- of two places: does the first begin ahead? -/
def ltB (fs : List Int) (a b : Int) : Bool := decide (gz fs a.toNat < gz fs b.toNat ∨ (gz fs a.toNat = gz fs b.toNat ∧ b < a))
def begL (fs ps : List Int) : List Int := ps.mergeSort fun a b => !ltB fs b a
theorem cfB_lt (fs : List Int) (a b : Int) : decide (cfB fs a b < 0) = ltB fs a b := by
  unfold cfB ltB orI Lib.compareInt
  generalize gz fs a.toNat = x
  generalize gz fs b.toNat = y
  by_cases h1 : x < y
  · simp [h1]
  · by_cases h2 : y < x
    · have : ¬ x = y := by omega
      simp [h1, h2, this]
    · have : x = y := by omega
      subst this
      by_cases h3 : b < a
      · simp [h3]
      · by_cases h4 : a < b <;> simp [h3, h4]
theorem ltB_irrefl (fs : List Int) (a : Int) : ltB fs a a = false := by unfold ltB; simp
theorem ltB_trans (fs : List Int) (a b c : Int) (h1 : ltB fs a b = true) (h2 : ltB fs b c = true) : ltB fs a c = true := by
  unfold ltB at *; simp only [decide_eq_true_eq] at *; omega
theorem ltB_ntrans (fs : List Int) (a b c : Int) (h1 : ltB fs a b = false) (h2 : ltB fs b c = false) : ltB fs a c = false := by
  unfold ltB at *; simp only [decide_eq_false_iff_not] at *; omega
theorem ltB_eq (fs : List Int) (a b : Int) (h1 : ltB fs a b = false) (h2 : ltB fs b a = false) : a = b := by
  unfold ltB at *; simp only [decide_eq_false_iff_not] at *; omega
def cfF (fs : List Int) (k : Nat) (x y : Fin (k + 1)) : Int := cfB fs ((x.val : Nat) : Int) ((y.val : Nat) : Int)
theorem ltOf_cfF (fs : List Int) (k : Nat) (x y : Fin (k + 1)) : ltOf (cfF fs k) x y = ltB fs ((x.val : Nat) : Int) ((y.val : Nat) : Int) := by
  unfold ltOf cfF; exact cfB_lt _ _ _
theorem swoF (fs : List Int) (k : Nat) : SWO (ltOf (cfF fs k)) where
  irrefl x := by rw [ltOf_cfF]; exact ltB_irrefl _ _
  trans x y z h1 h2 := by rw [ltOf_cfF] at *; exact ltB_trans _ _ _ _ h1 h2
  ntrans x y z h1 h2 := by rw [ltOf_cfF] at *; exact ltB_ntrans _ _ _ _ h1 h2
def encF (k : Nat) (x : Fin (k + 1)) : Value := .int .i64 ((x.val : Nat) : Int)
def valF (k : Nat) (x : Fin (k + 1)) : Int := ((x.val : Nat) : Int)
def finF (k : Nat) (z : Int) : Fin (k + 1) := ⟨min z.toNat k, by omega⟩
theorem val_fin (k : Nat) (z : Int) (h : 0 ≤ z ∧ z ≤ k) : valF k (finF k z) = z := by unfold valF finF; show ((min z.toNat k : Nat) : Int) = z; omega
theorem map_val_fin (k : Nat) (ps : List Int) (h : ∀ p ∈ ps, 0 ≤ p ∧ p ≤ (k : Int)) : (ps.map (finF k)).map (valF k) = ps := by
  rw [List.map_map]
  conv => rhs; rw [← List.map_id ps]
  exact List.map_congr_left fun p hp => val_fin k p (h p hp)
theorem putCells_fin (k off : Nat) (d : Array (Fin (k + 1))) (c : Array Value) : putCells (encF k) off d c = putCells (Value.int .i64) off (d.map (valF k)) c := by
  unfold putCells
  congr 1
  funext i x
  simp only [Array.size_map]
  by_cases h : off ≤ i ∧ i < off + d.size
  · rw [if_pos h, if_pos h, getElem!_pos d (i - off) (by omega), getElem!_pos (d.map (valF k)) (i - off) (by simp; omega), Array.getElem_map]; rfl
  · rw [if_neg h, if_neg h]
theorem sortWorld_fin (k : Nat) (w : World) (blk off n : Nat) (d : Array (Fin (k + 1))) (os : Array Obj) : sortWorld (encF k) w blk off n d os = sortWorld (Value.int .i64) w blk off n (d.map (valF k)) os := by
  unfold sortWorld putRow
  congr 2
  funext c
  exact putCells_fin k off d c
theorem begL_map (fs : List Int) (k : Nat) (l : List (Fin (k + 1))) : (l.mergeSort fun x y => !(ltOf (cfF fs k)) y x).map (valF k) = begL fs (l.map (valF k)) := by
  unfold begL
  exact List.map_mergeSort fun a _ b _ => by rw [ltOf_cfF]; rfl
theorem begL_perm (fs ps : List Int) : (begL fs ps).Perm ps := List.mergeSort_perm _ _

set_option maxHeartbeats 1600000 in
theorem sortB_any (fs ps : List Int) (tb k n : Nat) (T : Array Value) (pf : Option Addr) (cf B g cap : Nat) (cur : Array Value) (w : World) (hT : Bx w tb 54 T) (h1 : T[1]? = some (.slice pf (k + 1) cf)) (hm : k + 1 = fs.length) (hS : SlZ w pf fs) (hl : k + 1 ≤ 1000000)
    (hps : ∀ p ∈ ps, 0 ≤ p ∧ p ≤ (k : Int)) (hn : n = ps.length) (hnl : n ≤ 1000000) (hfar : ∀ b o, pf = some ⟨b, o, none⟩ → b ≠ g) (hB : B ≤ g) (hg : w.heap[g]? = some (.cells cur 3 (0, 0))) (hnc : n ≤ cap) (hcm : cap ≤ maxLen) (hcs : cur.size = cap * 1) (htake : cur.toList.take n = ps.map (Value.int .i64)) :
    Calls Tryz.prog 76 #[.slice (some ⟨g, 0, none⟩) n cap, .func (.func 77) #[] #[.pointer (some ⟨tb, 0, none⟩)]] w fun e w' => e = .returned (.tuple #[]) ∧ OwnZ w' B (.slice (some ⟨g, 0, none⟩) n cap) (begL fs ps) ∧ w.grownBy w' (some g) := by
  obtain ⟨d, hd⟩ : ∃ d, d = (ps.map (finF k)).toArray := ⟨_, rfl⟩
  have hdm : d.map (valF k) = ps.toArray := by rw [hd, List.map_toArray, map_val_fin k ps hps]
  have hds : d.size = n := by rw [hd]; simp [hn]
  have htg : tb ≠ g := fun e => by
    rw [← e, show w.heap[tb]? = _ from hT] at hg
    simp only [Option.some.injEq, Obj.cells.injEq] at hg
    exact absurd hg.2.1 (by decide)
  have eg : ∀ args w, (callFunc 77 args).run Tryz.prog w = .ok (.enter 77 args) w := enters_of Tryz.func77 (by kernel_rfl) rfl
  have hcmp : CmpLays1 Tryz.prog 77 #[.pointer (some ⟨tb, 0, none⟩)] (encF k) (cfF fs k) g 0 d.size w := by
    intro q os dk hs x y
    have hgr : w.grownBy (sortWorld (encF k) w g 0 q dk os) (some g) := by
      rw [sortWorld_fin]; exact grownBy_sortedI _
    have hS' : SlZ (sortWorld (encF k) w g 0 q dk os) pf fs := by
      rcases hS with h0 | ⟨b, o, rfl, hc⟩
      · exact .inl h0
      · exact .inr ⟨b, o, rfl, fun i hi => hgr.cell (hc i hi) (by simpa using hfar b o rfl)⟩
    exact begun1_any fs tb (k + 1) T pf cf x.val y.val _ (hT.kept hgr (by simpa using htg)) h1 hm hS' x.isLt y.isLt hl
  have hH : Holds (encF k) w g 0 d := by
    have h := holds_of_blockI (ss := ps) hg (by rw [← hn]; exact htake)
    rw [← hdm] at h
    intro j hj
    have h2 := h j (by simpa using hj)
    rw [getElem!_pos (d.map (valF k)) j (by simpa using hj), Array.getElem_map] at h2
    rw [getElem!_pos d j hj]
    exact h2
  have hx := Tryz.slices_SortFunc_total (encF k) (fun _ => rfl) (cfF fs k) (swoF fs k) 77 #[.pointer (some ⟨tb, 0, none⟩)] g 0 cap d w eg hcmp hH (lt_of_block hg) (by rw [hds]; simp only [maxLen] at hcm; omega)
    (fun x y e1 e2 => by rw [ltOf_cfF] at e1 e2; have := ltB_eq _ _ _ e1 e2; exact Fin.ext (by omega))
  rw [hds] at hx
  refine hx.mono ?_
  rintro e w' ⟨rfl, q, os, rfl⟩
  rw [sortWorld_fin, List.map_toArray, begL_map, ← Array.toList_map, hdm]
  have hlen : (begL fs ps).length = ps.length := (begL_perm fs ps).length_eq
  refine ⟨rfl, ?_, grownBy_sortedI _⟩
  have h := ownsRow_sortedI (n := q) (os := os) hlen hB hg (by omega) hcm hcs
  rw [← hn] at h
  unfold OwnZ
  rw [hlen, ← hn]
  exact h
theorem sortOwn_any (fs ps : List Int) (tb k n : Nat) (T : Array Value) (pf : Option Addr) (cf B : Nat) (r : Option Addr) (cr : Nat) (w : World) (hT : Bx w tb 54 T) (h1 : T[1]? = some (.slice pf (k + 1) cf)) (hm : k + 1 = fs.length) (hS : SlZ w pf fs) (hl : k + 1 ≤ 1000000)
    (hps : ∀ p ∈ ps, 0 ≤ p ∧ p ≤ (k : Int)) (hn : n = ps.length) (hnl : n ≤ 1000000) (hfar : ∀ b o, pf = some ⟨b, o, none⟩ → b < B) (ho : OwnZ w B (.slice r n cr) ps) :
    Calls Tryz.prog 76 #[.slice r n cr, .func (.func 77) #[] #[.pointer (some ⟨tb, 0, none⟩)]] w fun e w' => e = .returned (.tuple #[]) ∧ OwnZ w' B (.slice r n cr) (begL fs ps) ∧ w.grownBy w' (Value.slice r n cr).ownBlock := by
  have ho' := ho
  rcases ho.2 with ⟨e1, hn0⟩ | ⟨g, cap, cur, e1, hb, hg, hnc, hcm, hcs, htake⟩
  · have hp : ps = [] := List.eq_nil_of_length_eq_zero hn0
    subst hp
    have hn1 : n = 0 := hn
    subst hn1
    refine (Tryz.slices_SortFunc_none (α := Int) r cr _ w).mono ?_
    rintro e w' ⟨rfl, rfl⟩
    exact ⟨rfl, by unfold begL; rw [List.mergeSort_nil]; exact ho', World.grownBy.refl _ _⟩
  · rw [← hn] at e1 hnc htake
    simp only [Value.slice.injEq, true_and] at e1
    obtain ⟨rfl, rfl⟩ := e1
    rw [Nat.mul_one] at htake
    exact sortB_any fs ps tb k n T pf cf B g cr cur w hT h1 hm hS hl hps hn hnl (fun b o e => by have := hfar b o e; omega) hb hg hnc hcm hcs htake
end Go.Proofs.YtpiknmnhcpjfaaaGreat
