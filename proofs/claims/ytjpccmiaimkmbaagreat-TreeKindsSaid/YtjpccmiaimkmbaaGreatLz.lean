/- The walk of begun's sort: places in the order in which they begin. -/
/- The walk of begun: the places of the nodes of a kind, in the order in which they begin. -/
/- The walk of counted. -/
import Derived.Test.YtjpccmiaimkmbaaGreatLw
import Derived.Sort.OwnSortedInts

namespace Go.Proofs.YtjpccmiaimkmbaaGreat
open Go.RowKit Tnr Tnt Go.Sort Go.Shelf

def ltB (fs : List Int) (a b : Int) : Bool := decide (gz fs a.toNat < gz fs b.toNat ∨ (gz fs a.toNat = gz fs b.toNat ∧ b < a))
def begL (fs ps : List Int) : List Int := ps.mergeSort fun a b => !ltB fs b a
theorem cfB_lt (fs : List Int) (a b : Int) : decide (cfB fs a b < 0) = ltB fs a b := by
  unfold cfB ltB orI Lib.compareInt
  generalize gz fs a.toNat = x
  generalize gz fs b.toNat = y
  by_cases h1 : x < y
  · simp [h1]
  · by_cases h2 : y < x
    · have : ¬ x = y := by omega
      simp [h1, h2, this]
    · have : x = y := by omega
      subst this
      by_cases h3 : b < a
      · simp [h3]
      · by_cases h4 : a < b <;> simp [h3, h4]
theorem ltB_irrefl (fs : List Int) (a : Int) : ltB fs a a = false := by unfold ltB; simp
theorem ltB_trans (fs : List Int) (a b c : Int) (h1 : ltB fs a b = true) (h2 : ltB fs b c = true) : ltB fs a c = true := by
  unfold ltB at *; simp only [decide_eq_true_eq] at *; omega
theorem ltB_ntrans (fs : List Int) (a b c : Int) (h1 : ltB fs a b = false) (h2 : ltB fs b c = false) : ltB fs a c = false := by
  unfold ltB at *; simp only [decide_eq_false_iff_not] at *; omega
theorem ltB_eq (fs : List Int) (a b : Int) (h1 : ltB fs a b = false) (h2 : ltB fs b a = false) : a = b := by
  unfold ltB at *; simp only [decide_eq_false_iff_not] at *; omega
def cfF (fs : List Int) (k : Nat) (x y : Fin (k + 1)) : Int := cfB fs ((x.val : Nat) : Int) ((y.val : Nat) : Int)
theorem ltOf_cfF (fs : List Int) (k : Nat) (x y : Fin (k + 1)) : ltOf (cfF fs k) x y = ltB fs ((x.val : Nat) : Int) ((y.val : Nat) : Int) := by
  unfold ltOf cfF; exact cfB_lt _ _ _
theorem swoF (fs : List Int) (k : Nat) : SWO (ltOf (cfF fs k)) where
  irrefl x := by rw [ltOf_cfF]; exact ltB_irrefl _ _
  trans x y z h1 h2 := by rw [ltOf_cfF] at *; exact ltB_trans _ _ _ _ h1 h2
  ntrans x y z h1 h2 := by rw [ltOf_cfF] at *; exact ltB_ntrans _ _ _ _ h1 h2
def encF (k : Nat) (x : Fin (k + 1)) : Value := .int .i64 ((x.val : Nat) : Int)
def valF (k : Nat) (x : Fin (k + 1)) : Int := ((x.val : Nat) : Int)
def finF (k : Nat) (z : Int) : Fin (k + 1) := ⟨min z.toNat k, by omega⟩
theorem val_fin (k : Nat) (z : Int) (h : 0 ≤ z ∧ z ≤ k) : valF k (finF k z) = z := by unfold valF finF; show ((min z.toNat k : Nat) : Int) = z; omega
theorem map_val_fin (k : Nat) (ps : List Int) (h : ∀ p ∈ ps, 0 ≤ p ∧ p ≤ (k : Int)) : (ps.map (finF k)).map (valF k) = ps := by
  rw [List.map_map]
  conv => rhs; rw [← List.map_id ps]
  exact List.map_congr_left fun p hp => val_fin k p (h p hp)
theorem putCells_fin (k off : Nat) (d : Array (Fin (k + 1))) (c : Array Value) : putCells (encF k) off d c = putCells (Value.int .i64) off (d.map (valF k)) c := by
  unfold putCells
  congr 1
  funext i x
  simp only [Array.size_map]
  by_cases h : off ≤ i ∧ i < off + d.size
  · rw [if_pos h, if_pos h, getElem!_pos d (i - off) (by omega), getElem!_pos (d.map (valF k)) (i - off) (by simp; omega), Array.getElem_map]; rfl
  · rw [if_neg h, if_neg h]
theorem sortWorld_fin (k : Nat) (w : World) (blk off n : Nat) (d : Array (Fin (k + 1))) (os : Array Obj) : sortWorld (encF k) w blk off n d os = sortWorld (Value.int .i64) w blk off n (d.map (valF k)) os := by
  unfold sortWorld putRow
  congr 2
  funext c
  exact putCells_fin k off d c
theorem begL_map (fs : List Int) (k : Nat) (l : List (Fin (k + 1))) : (l.mergeSort fun x y => !(ltOf (cfF fs k)) y x).map (valF k) = begL fs (l.map (valF k)) := by
  unfold begL
  exact List.map_mergeSort fun a _ b _ => by rw [ltOf_cfF]; rfl
theorem begL_perm (fs ps : List Int) : (begL fs ps).Perm ps := List.mergeSort_perm _ _

set_option maxHeartbeats 1600000 in
theorem sortB_any (fs ps : List Int) (tb k n : Nat) (T : Array Value) (pf : Option Addr) (cf B g cap : Nat) (cur : Array Value) (w : World) (hT : Bx w tb 67 T) (h1 : T[1]? = some (.slice pf (k + 1) cf)) (hm : k + 1 = fs.length) (hS : SlZ w pf fs) (hl : k + 1 ≤ 1000000)
    (hps : ∀ p ∈ ps, 0 ≤ p ∧ p ≤ (k : Int)) (hn : n = ps.length) (hnl : n ≤ 1000000) (hfar : ∀ b o, pf = some ⟨b, o, none⟩ → b ≠ g) (hB : B ≤ g) (hg : w.heap[g]? = some (.cells cur 3 (0, 0))) (hnc : n ≤ cap) (hcm : cap ≤ maxLen) (hcs : cur.size = cap * 1) (htake : cur.toList.take n = ps.map (Value.int .i64)) :
    Calls Tryz.prog 167 #[.slice (some ⟨g, 0, none⟩) n cap, .func (.func 168) #[] #[.pointer (some ⟨tb, 0, none⟩)]] w fun e w' => e = .returned (.tuple #[]) ∧ OwnZ w' B (.slice (some ⟨g, 0, none⟩) n cap) (begL fs ps) ∧ w.grownBy w' (some g) := by
  obtain ⟨d, hd⟩ : ∃ d, d = (ps.map (finF k)).toArray := ⟨_, rfl⟩
  have hdm : d.map (valF k) = ps.toArray := by rw [hd, List.map_toArray, map_val_fin k ps hps]
  have hds : d.size = n := by rw [hd]; simp [hn]
  have htg : tb ≠ g := fun e => by
    rw [← e, show w.heap[tb]? = _ from hT] at hg
    simp only [Option.some.injEq, Obj.cells.injEq] at hg
    exact absurd hg.2.1 (by decide)
  have eg : ∀ args w, (callFunc 168 args).run Tryz.prog w = .ok (.enter 168 args) w := enters_of Tryz.func168 (by kernel_rfl) rfl
  have hcmp : CmpLays1 Tryz.prog 168 #[.pointer (some ⟨tb, 0, none⟩)] (encF k) (cfF fs k) g 0 d.size w := by
    intro q os dk hs x y
    have hgr : w.grownBy (sortWorld (encF k) w g 0 q dk os) (some g) := by
      rw [sortWorld_fin]; exact grownBy_sortedI _
    have hS' : SlZ (sortWorld (encF k) w g 0 q dk os) pf fs := by
      rcases hS with h0 | ⟨b, o, rfl, hc⟩
      · exact .inl h0
      · exact .inr ⟨b, o, rfl, fun i hi => hgr.cell (hc i hi) (by simpa using hfar b o rfl)⟩
    exact begun1_any fs tb (k + 1) T pf cf x.val y.val _ (hT.kept hgr (by simpa using htg)) h1 hm hS' x.isLt y.isLt hl
  have hH : Holds (encF k) w g 0 d := by
    have h := holds_of_blockI (ss := ps) hg (by rw [← hn]; exact htake)
    rw [← hdm] at h
    intro j hj
    have h2 := h j (by simpa using hj)
    rw [getElem!_pos (d.map (valF k)) j (by simpa using hj), Array.getElem_map] at h2
    rw [getElem!_pos d j hj]
    exact h2
  have hx := Tryz.slices_SortFunc_total (encF k) (fun _ => rfl) (cfF fs k) (swoF fs k) 168 #[.pointer (some ⟨tb, 0, none⟩)] g 0 cap d w eg hcmp hH (lt_of_block hg) (by rw [hds]; simp only [maxLen] at hcm; omega)
    (fun x y e1 e2 => by rw [ltOf_cfF] at e1 e2; have := ltB_eq _ _ _ e1 e2; exact Fin.ext (by omega))
  rw [hds] at hx
  refine hx.mono ?_
  rintro e w' ⟨rfl, q, os, rfl⟩
  rw [sortWorld_fin, List.map_toArray, begL_map, ← Array.toList_map, hdm]
  have hlen : (begL fs ps).length = ps.length := (begL_perm fs ps).length_eq
  refine ⟨rfl, ?_, grownBy_sortedI _⟩
  have h := ownsRow_sortedI (n := q) (os := os) hlen hB hg (by omega) hcm hcs
  rw [← hn] at h
  unfold OwnZ
  rw [hlen, ← hn]
  exact h
theorem sortOwn_any (fs ps : List Int) (tb k n : Nat) (T : Array Value) (pf : Option Addr) (cf B : Nat) (r : Option Addr) (cr : Nat) (w : World) (hT : Bx w tb 67 T) (h1 : T[1]? = some (.slice pf (k + 1) cf)) (hm : k + 1 = fs.length) (hS : SlZ w pf fs) (hl : k + 1 ≤ 1000000)
    (hps : ∀ p ∈ ps, 0 ≤ p ∧ p ≤ (k : Int)) (hn : n = ps.length) (hnl : n ≤ 1000000) (hfar : ∀ b o, pf = some ⟨b, o, none⟩ → b < B) (ho : OwnZ w B (.slice r n cr) ps) :
    Calls Tryz.prog 167 #[.slice r n cr, .func (.func 168) #[] #[.pointer (some ⟨tb, 0, none⟩)]] w fun e w' => e = .returned (.tuple #[]) ∧ OwnZ w' B (.slice r n cr) (begL fs ps) ∧ w.grownBy w' (Value.slice r n cr).ownBlock := by
  have ho' := ho
  rcases ho.2 with ⟨e1, hn0⟩ | ⟨g, cap, cur, e1, hb, hg, hnc, hcm, hcs, htake⟩
  · have hp : ps = [] := List.eq_nil_of_length_eq_zero hn0
    subst hp
    have hn1 : n = 0 := hn
    subst hn1
    refine (Tryz.slices_SortFunc_none (α := Int) r cr _ w).mono ?_
    rintro e w' ⟨rfl, rfl⟩
    exact ⟨rfl, by unfold begL; rw [List.mergeSort_nil]; exact ho', World.grownBy.refl _ _⟩
  · rw [← hn] at e1 hnc htake
    simp only [Value.slice.injEq, true_and] at e1
    obtain ⟨rfl, rfl⟩ := e1
    rw [Nat.mul_one] at htake
    exact sortB_any fs ps tb k n T pf cf B g cr cur w hT h1 hm hS hl hps hn hnl (fun b o e => by have := hfar b o e; omega) hb hg hnc hcm hcs htake
end Go.Proofs.YtjpccmiaimkmbaaGreat


namespace Go.Proofs.YtjpccmiaimkmbaaGreat
open Go.RowKit Tnr Tnt

attribute [local go_sem] Oper.semAt_some

def evP (ks : List Int) (xs : List NV) : List Int := (ev ks 0 xs).map fun x => ((x.1 : Nat) : Int)
def plI (pre : List (Nat × NV)) : List Int := pre.map fun x => ((x.1 : Nat) : Int)
theorem plI_snoc (pre : List (Nat × NV)) (x : Nat × NV) : plI (pre ++ [x]) = plI pre ++ [((x.1 : Nat) : Int)] := by simp [plI]
theorem plI_snoc_map (pre : List (Nat × NV)) (x : Nat × NV) : List.map (Value.int .i64) (plI pre ++ [((x.1 : Nat) : Int)]) = List.map (Value.int .i64) (plI pre) ++ [Value.int .i64 ((x.1 : Nat) : Int)] := by simp
theorem ev_range (ks : List Int) : ∀ (xs : List NV) (k : Nat), ∀ x ∈ ev ks k xs, k ≤ x.1 ∧ x.1 < k + xs.length
  | [], _, x, h => by simp [ev] at h
  | y :: ys, k, x, h => by
    unfold ev at h
    split at h
    · rcases List.mem_cons.1 h with rfl | h
      · exact ⟨Nat.le_refl _, by simp⟩
      · have := ev_range ks ys (k + 1) x h; simp only [List.length_cons]; omega
    · have := ev_range ks ys (k + 1) x h; simp only [List.length_cons]; omega

set_option maxHeartbeats 6400000 in
set_option maxRecDepth 100000 in
theorem begun_any (p : Option Addr) (m c : Nat) (xs : List NV) (pf : Option Addr) (cf : Nat) (vd : Value) (fs : List Int) (kd : Int) (w : World) (hm : m = xs.length) (h1m : 1 ≤ m) (hld : m ≤ 1000000) (hL : SlN w p xs) (hfs : m = fs.length) (hF : SlZ w pf fs) :
    Calls Tryz.prog 143 #[.agg #[.slice p m c, .slice pf m cf, vd], .int .u8 kd] w fun e w' => ∃ r k cr, e = .returned (.slice r k cr) ∧ k = (evP [kd] xs).length ∧ OwnZ w' w.heap.size (.slice r k cr) (begL fs (evP [kd] xs)) ∧ Below w.heap.size w w' := by
  obtain ⟨i0, hinf, hz0, hz1, hz2⟩ := info_parts info_intz
  refine (callsIn_wide (n := 8)).1 ?_
  have hro : Fence.wide.round = none := rfl
  obtain ⟨b0, hb0⟩ : ∃ b, b = w.heap.size := ⟨_, rfl⟩
  obtain ⟨W3, hW3⟩ : ∃ W, W = ((w.alloc (.cells #[.slice p m c, .slice pf m cf, vd] 67)).alloc (.cells #[.slice none 0 0] 24)).alloc (.cells #[.int .u8 kd] 22) := ⟨_, rfl⟩
  have hB3 : Below w.heap.size w W3 := by rw [hW3]; exact bl_trans (bl_trans (bl_alloc _ _) (bl_alloc _ _)) (bl_alloc _ _)
  have bG : Boxed W3 (b0 + 1) 24 (.slice none 0 0) := by
    have h := (Bx.new (w.alloc (.cells #[.slice p m c, .slice pf m cf, vd] 67)) 24 #[.slice none 0 0]).below (bl_alloc _ (.cells #[.int .u8 kd] 22))
    rw [World.size_alloc, ← hb0] at h; rw [hW3]; exact h
  have hs3 : W3.heap.size = b0 + 1 + 1 + 1 := by rw [hW3, hb0]; simp
  have hU : SlU W3 (some ⟨b0 + 1 + 1, 0, none⟩) [kd] := by
    have h := slu_new ((w.alloc (.cells #[.slice p m c, .slice pf m cf, vd] 67)).alloc (.cells #[.slice none 0 0] 24)) [kd] 22 #[.int .u8 kd] rfl
    rw [World.size_alloc, World.size_alloc, ← hb0] at h; rw [hW3]; exact h
  have HW3 := Lib.hid hW3
  have HB3 := Lib.hid hB3
  have HS3 := Lib.hid hs3
  have HG3 := Lib.hid (And.intro bG hU)
  have HB0 := Lib.hid hb0
  have bT : Bx W3 b0 67 #[.slice p m c, .slice pf m cf, vd] := by rw [hW3, hb0]; exact (Bx.new w _ _).below (bl_trans (bl_alloc _ _) (bl_alloc _ _))
  have HTF := Lib.hid (And.intro bT (And.intro hF (And.intro hfs h1m)))
  have HL := Lib.hid hL
  have HM := Lib.hid (And.intro hm hld)
  clear hL hm hld hW3 hB3 hs3 bG hU hb0 bT hF hfs h1m
  refine callsIn_of_wp_marks Tryz.func143 rfl trivial ?_ hro
  simp only [Tryz.ntmps143, List.size_toArray, List.length_cons, List.length_nil, Nat.reduceAdd, Nat.reduceSub, Array.replicate_succ, Array.replicate_zero, List.push_toArray, List.append_toArray, List.nil_append, List.cons_append]
  gi_wp2_with ((refine ⟨trivial, ?_⟩; gi_at_call 57; refine (callsIn_wide.2 (each_any _ _ _ _ _ _ _)).mono ?_; rintro e w' ⟨rfl, rfl⟩))
  rw [← HW3.out, ← HB0.out]
  obtain ⟨W5, hW5⟩ : ∃ W, W = (W3.alloc (.cells #[.slice p m c] 63)).alloc (.cells #[.slice (some ⟨b0 + 1 + 1, 0, none⟩) 1 1] 136) := ⟨_, rfl⟩
  rw [← hW5]
  have hb35 : Below W3.heap.size W3 W5 := by rw [hW5]; exact bl_trans (bl_alloc _ _) (bl_alloc _ _)
  have bS : Bx W5 (b0 + 1 + 1 + 1) 63 #[.slice p m c] := by rw [hW5, ← HS3.out]; exact (Bx.new W3 _ _).below (bl_alloc _ _)
  have bK : Bx W5 (b0 + 1 + 1 + 1 + 1) 136 #[.slice (some ⟨b0 + 1 + 1, 0, none⟩) 1 1] := by
    have h := Bx.new (W3.alloc (.cells #[.slice p m c] 63)) 136 #[.slice (some ⟨b0 + 1 + 1, 0, none⟩) 1 1]
    rw [World.size_alloc, HS3.out] at h; rw [hW5]; exact h
  have hB5 : Below w.heap.size w W5 := bl_trans HB3.out hb35
  have hst := each_stops (8 - 1) (b0 + 1 + 1 + 1) (b0 + 1 + 1 + 1 + 1) p m c xs (some ⟨b0 + 1 + 1, 0, none⟩) 1 1 [kd] HM.out.1 HM.out.2 rfl (by omega) (by omega) W5 bS bK (HL.out.below hB5) (HG3.out.2.below hb35)
  have bG5 : Boxed W5 (b0 + 1) 24 (.slice none 0 0) := (show Bx W3 (b0 + 1) _ #[_] from HG3.out.1).below hb35
  have HG5 := Lib.hid bG5
  have HS5 : Hid (W5.heap.size = b0 + 1 + 1 + 1 + 1 + 1) := by show _ = _; rw [hW5, World.size_alloc, World.size_alloc, HS3.out]
  have HB5 := Lib.hid hB5
  have HBK := Lib.hid bK
  have hlen := ev_length [kd] xs 0
  have HML : Hid ((ev [kd] 0 xs).length ≤ 1000000) := by show _ ≤ _; have := HM.out.1; have := HM.out.2; omega
  have HT5 : Hid (Bx W5 b0 67 #[.slice p m c, .slice pf m cf, vd]) := HTF.out.1.below hb35
  clear hW5 hb35 bS bK hB5 bG5 hlen
  refine wpIn_rangeFunc_ownH hro (by omega) (gf := 104) (lb := #[.pointer (some ⟨b0 + 1 + 1 + 1, 0, none⟩), .pointer (some ⟨b0 + 1 + 1 + 1 + 1, 0, none⟩)]) rfl trivial (enters_of Tryz.func104 (by kernel_rfl) rfl)
    hst (fun h k => h.trans k) kpn_b (Below.refl _ _) (fun _ => rfl)
    (fun pre W => (∃ r cr, Boxed W (b0 + 1) 24 (.slice r pre.length cr) ∧ OwnZ W (b0 + 1 + 1 + 1 + 1 + 1) (.slice r pre.length cr) (plI pre)) ∧ Bx W (b0 + 1 + 1 + 1 + 1) 136 #[.slice (some ⟨b0 + 1 + 1, 0, none⟩) 1 1] ∧ Bx W b0 67 #[.slice p m c, .slice pf m cf, vd] ∧ Below w.heap.size w W)
    (fun _ _ _ => False)
    (OwnFrom.and (Own.from (fun pre X Y row hs hg hr => by
      obtain ⟨r, cr, h1, h2⟩ := hs
      refine ⟨r, cr, bx_own _ _ (fun (_ : Unit) => #[Value.slice r pre.length cr]) () X Y row h1 hg hr, World.ownsRow.kept h2 hg ?_⟩
      rcases h2.2 with ⟨e, _⟩ | ⟨g, cap, cur, e, _, hh, _⟩
      · rw [e]; exact .inl rfl
      · refine .inr fun e2 => ?_
        rw [e] at e2
        simp only [Value.ownBlock] at e2
        obtain ⟨o, ho, hc⟩ := hr g e2.symm
        rw [hh] at ho; cases ho; cases hc) _) (OwnFrom.and (Own.from (bx_own _ _ (fun _ => #[.slice (some ⟨b0 + 1 + 1, 0, none⟩) 1 1])) _) (OwnFrom.and (Own.from (bx_own _ _ (fun _ => #[.slice p m c, .slice pf m cf, vd])) _) (ownFrom_below (Nat.le_refl _) (by have := HS5.out; have := HB0.out; omega)))))
    (fun _ _ _ _ _ hs _ _ => hs)
    ⟨⟨none, 0, HG5.out, ownZ_nil _ _⟩, HBK.out, HT5.out, HB5.out⟩
    (fun x a' _ => a' = { tmps := #[.agg #[.slice p m c, .slice pf m cf, vd], .int .u8 kd, .pointer (some ⟨b0, 0, none⟩), undef, .slice none 0 0, .pointer (some ⟨b0 + 1, 0, none⟩), .int .i64 (x.1 : Nat), .pointer (some ⟨b0, 0, none⟩), .slice p m c, .int .u8 kd, .slice (some ⟨b0 + 1 + 1, 0, none⟩) 1 1, .func (.func 104) #[] #[.pointer (some ⟨b0 + 1 + 1 + 1, 0, none⟩), .pointer (some ⟨b0 + 1 + 1 + 1 + 1, 0, none⟩)], .int .i64 (x.1 : Nat), .agg (encN x.2).toArray, undef, undef, undef, undef, undef, undef, undef, undef], defers := [] })
    (fun x a' _ X Y row hs hg hr => hs)
    ?assign ?body ?done ?stop
  case assign =>
    rintro l pre x W K ⟨⟨r, cr, hG1, hO1⟩, hK1, hT1, hB1⟩ hK
    have HAS := Lib.hid (hK _ W ⟨Nat.le_refl _, fun _ _ _ h _ => h⟩ ⟨fun h => h, fun h => h, fun _ _ _ _ h => h⟩ ⟨⟨r, cr, hG1, hO1⟩, hK1, hT1, hB1⟩ rfl)
    clear hK hG1 hO1 hK1 hT1 hB1
    gi_wp2
    exact HAS.out
  case body =>
    rintro l pre x a' W hl ⟨lp, hr⟩ ⟨⟨r, cr, hG1, hO1⟩, hK1, hT1, hB1⟩ rfl hlt
    have cG := hG1.cell
    have hlg : pre.length = (plI pre).length := by simp [plI]
    have hrow := ownZ_row hO1 hlg
    have HROW := Lib.hid hrow
    have HGX := Lib.hid hG1
    have HWS := Lib.hid (show b0 + 1 + 1 + 1 + 1 + 1 ≤ W.heap.size by have := hK1.lt; omega)
    have HLT := Lib.hid hlt
    have HKB := Lib.hid (And.intro hK1 hB1)
    have HKT := Lib.hid hT1
    have HLG := Lib.hid hlg
    clear hr hT1 hG1 hO1 hK1 hB1 hlt hrow hlg
    gi_wp2_with (gi_at_builtin; refine wpListIn_append_own _ rfl _ _ 24 rfl (b0 + 1 + 1 + 1 + 1 + 1) 3 i0 (.int .i64 0) 1 8 Tryz.underlying24 hinf hz0 hz1 hz2 rfl (by decide) (.slice r pre.length cr) pre.length _ rfl (HROW.out.alloc _) ⟨W.heap.size, 0, none⟩ 1 1 [.int .i64 (x.1 : Nat)] rfl rfl (cells_one_z _ _ _) (by simp [Value.oneCell']) (by have := HML.out; have := HLT.out; simp only [maxLen]; omega) (by have := HML.out; have := HLT.out; omega) (by have := HWS.out; simp; omega) ?_; intro v' w1 hown' hgrow _; obtain ⟨g', cap', rfl⟩ := ownsRow_succ hown'; obtain ⟨hv1, hv2, hr2, hk2, hb2, hs2⟩ := boxed_app (n₀ := b0) HGX.out (by decide) HROW.out (by omega) HWS.out (by omega) hown' hgrow; have hc1 := hv1.cell; have hf1 := hv1.frozen; have HV1 := Lib.hid hv1; have HV2 := Lib.hid hv2; have HR2 := Lib.hid hr2; have HK2 := Lib.hid hk2; have HB2 := Lib.hid hb2; have HSM := Lib.hid hs2; clear hv1 hv2 hr2 hk2 hb2 hs2 hown' hgrow)
    have hbk : Bx (w1.setCell ⟨b0 + 1, 0, none⟩ (Value.slice (some ⟨g', 0, none⟩) (pre.length + 1) cap')) (b0 + 1 + 1 + 1 + 1) 136 #[.slice (some ⟨b0 + 1 + 1, 0, none⟩) 1 1] := (HSM.out _ (by omega) (by omega)).trans HKB.out.1
    have hbw := HKB.out.2.trans (HB2.out.mono (Nat.le_of_eq HB0.out.symm))
    refine ⟨HK2.out.from _, ⟨fun _ => HL.out.below hbw, fun h => h.same (HSM.out _ (by omega) (by omega)), fun b T cs hb h => (HSM.out b (by rcases hb with rfl | rfl <;> omega) (by rcases hb with rfl | rfl <;> omega)).trans h⟩, ⟨some ⟨g', 0, none⟩, cap', ?_, ?_⟩, hbk, (HSM.out _ (by omega) (by omega)).trans HKT.out, hbw⟩
    · rw [List.length_append]; exact HV2.out
    · have h := HR2.out
      rw [← plI_snoc_map] at h
      rw [List.length_append]
      unfold OwnZ
      rw [plI_snoc]
      rw [show (plI pre ++ [((x.1 : Nat) : Int)]).length = pre.length + 1 by rw [List.length_append, ← HLG.out]; rfl]
      exact h
  case done =>
    rintro D ys W hD rfl ⟨⟨r, cr, hG1, hO1⟩, hK1, hT1, hB1⟩ hK
    obtain ⟨n, hn⟩ : ∃ n, n = (ev [kd] 0 xs).length := ⟨_, rfl⟩
    have hgn : n = (plI (ev [kd] 0 xs)).length := by rw [hn]; simp [plI]
    have hn1 : n ≤ 1000000 := by have := HML.out; omega
    rw [← hn] at hG1 hO1
    obtain ⟨k, hk⟩ : ∃ k, m = k + 1 := ⟨m - 1, by have := HTF.out.2.2.2; omega⟩
    have hrange : ∀ p ∈ plI (ev [kd] 0 xs), 0 ≤ p ∧ p ≤ (k : Int) := by
      intro p hp
      obtain ⟨x, hx, rfl⟩ := List.mem_map.1 hp
      have := ev_range [kd] xs 0 x hx
      have := HM.out.1
      omega
    have hF := HTF.out.2.1
    have hfl := HTF.out.2.2.1
    have h1k : (#[Value.slice p m c, .slice pf m cf, vd] : Array Value)[1]? = some (.slice pf (k + 1) cf) := by rw [← hk]; rfl
    have HSO := Lib.hid (sortOwn_any fs (plI (ev [kd] 0 xs)) b0 k n _ pf cf (b0 + 1 + 1 + 1 + 1 + 1) r cr W hT1 h1k (by rw [← hk]; exact hfl) (hF.below hB1) (by have := HM.out.2; omega) hrange hgn hn1
      (fun b o e => by
        rcases hF with h0 | ⟨b', o', h2, h3⟩
        · rw [h0] at hfl; simp at hfl; omega
        · rw [e] at h2; cases h2
          have := World.block_lt_of_cell? w _ (h3 0 (by rw [← hfl]; omega))
          have h4 : b < w.heap.size := this
          have := HB0.out
          omega) hO1)
    have HR := Lib.hid hO1
    have HX := Lib.hid (And.intro hB1 hK)
    have HBG := Lib.hid hG1
    have cG := hG1.cell
    have HD := Lib.hid hD
    have HN := Lib.hid hgn
    clear hK1 hG1 hO1 hB1 hK hD hgn hn hT1 hrange hF hfl h1k hk
    gi_wp2_with ((refine ⟨trivial, ?_⟩; gi_at_call 167; refine (callsIn_wide.2 HSO.out).mono ?_; rintro e w5 ⟨rfl, hOw, hgr⟩; have hbx5 : Bx w5 (b0 + 1) 24 #[.slice r n cr] := Bx.kept HBG.out hgr (fun e => row_ne HR.out (show W.heap[b0 + 1]? = _ from HBG.out) (by decide) e.symm); have c5 : w5.cell? ⟨b0 + 1, 0, none⟩ = some (.slice r n cr) := hbx5.cell rfl; have HOW := Lib.hid hOw; have HGR := Lib.hid hgr; clear hOw hgr hbx5))
    have hKq : w5.heap[D]? = some (.deferred (some [])) := by
      refine (HGR.out.block D (lt_of_block HX.out.2) (fun e => ?_)).trans HX.out.2
      rcases HR.out.2 with ⟨e1, _⟩ | ⟨g, cap, cur, e1, _, hh, _⟩
      · rw [e1] at e; simp [Value.ownBlock] at e
      · rw [e1] at e
        simp only [Value.ownBlock, Option.some.injEq] at e
        rw [← e, HX.out.2] at hh
        cases hh
    refine ⟨by simp, .inl ⟨_, _, rfl, run_takeDeferred hKq, ?_⟩⟩
    have hB6 : Below w.heap.size w w5 := HX.out.1.grown HGR.out HX.out.1.size (fun j ej => by
      have := (World.ownsRow.lt HR.out j ej).1
      have := HB0.out
      omega)
    refine ⟨_, by simp [results, Tryz.f143], r, n, cr, rfl, ?_, ?_, hB6.trans (belowK_b (w := w) (Nat.le_refl _) _ D _ _ (by have := HS5.out; have := HB0.out; have := HD.out; omega) hKq rfl rfl)⟩
    · exact HN.out
    · exact ownZ_down (ownsRow_putObj HOW.out (.deferred none) hKq rfl) (by have := HB0.out; omega)
  case stop =>
    rintro D c' pre W _ _ h _
    exact h.elim
end Go.Proofs.YtjpccmiaimkmbaaGreat


namespace Go.Proofs.YtjpccmiaimkmbaaGreat
open Go.RowKit Tnr Tnt

def countOk (xs : List NV) (ps : List Int) : Bool := (List.range ps.length).all fun i => (gn xs (gz ps i).toNat).nd.group == (i : Int) + 1
def begG (xs : List NV) (fs : List Int) : List Int := begL fs (evP [5] xs)
def countB (xs : List NV) (fs : List Int) (nm : Nat) : Bool := countOk xs (begG xs fs) && (begG xs fs).length == nm
theorem countOk_of {xs : List NV} {ps : List Int} (h : ∀ i, i < ps.length → (gn xs (gz ps i).toNat).nd.group = (i : Int) + 1) : countOk xs ps = true := by
  unfold countOk; rw [List.all_eq_true]; intro i hi; simpa using h i (List.mem_range.1 hi)
theorem countOk_bad {xs : List NV} {ps : List Int} {i : Nat} (hi : i < ps.length) (h : (gn xs (gz ps i).toNat).nd.group ≠ (i : Int) + 1) : countOk xs ps = false := by
  unfold countOk; rw [List.all_eq_false]; exact ⟨i, List.mem_range.2 hi, by simpa using h⟩
theorem begG_in {xs : List NV} {fs : List Int} {i : Nat} (hi : i < (begG xs fs).length) : 0 ≤ gz (begG xs fs) i ∧ gz (begG xs fs) i < xs.length := by
  rw [gz_get hi]
  have h := (begL_perm fs (evP [5] xs)).subset (List.getElem_mem (l := begG xs fs) hi)
  obtain ⟨x, hx, e⟩ := List.mem_map.1 h
  have := ev_range [5] xs 0 x hx
  rw [← e]; omega
set_option maxHeartbeats 1600000 in
set_option maxRecDepth 100000 in
theorem counted_any (p : Option Addr) (m c : Nat) (xs : List NV) (pf pd : Option Addr) (cf cd nm : Nat) (fs : List Int) (w : World) (hm : m = xs.length) (h1m : 1 ≤ m) (hld : m ≤ 1000000) (hL : SlN w p xs) (hfs : m = fs.length) (hF : SlZ w pf fs) :
    Calls Tryz.prog 110 #[.agg #[.slice p m c, .slice pf m cf, .slice pd m cd], .int .i64 (nm : Nat)] w fun e w' => e = .returned (.bool (countB xs fs nm)) ∧ Below w.heap.size w w' := by
  have hb1 := bl_alloc w (.cells #[.slice p m c, .slice pf m cf, .slice pd m cd] 67)
  have HBG := Lib.hid (begun_any p m c xs pf cf (.slice pd m cd) fs 5 (w.alloc (.cells #[.slice p m c, .slice pf m cf, .slice pd m cd] 67)) hm h1m hld (hL.below hb1) hfs (hF.below hb1))
  have HT := Lib.hid (Bx.new w 67 #[.slice p m c, .slice pf m cf, .slice pd m cd])
  have HB1 := Lib.hid hb1
  have HL := Lib.hid (hL.below hb1)
  have HM := Lib.hid (And.intro hm hld)
  have hmI : (m : Int) ≤ 1000000 := by omega
  clear hm hld hL hfs hF h1m hb1
  go_enter Tryz.func110, Tryz.ntmps110
  go_wp2_with (go_at_call 143; refine (HBG.out).mono ?_; rintro e w5 ⟨r, n, cr, rfl, hn, hO, hb5⟩; have hT5 := HT.out.below hb5; have cT := hT5.cell (i := 0) (v := .slice p m c) rfl; have HO := Lib.hid hO; have HN := Lib.hid hn; have HB5 := Lib.hid hb5; have HL5 := Lib.hid (HL.out.below hb5); clear hn hO hb5 hT5)
  have hlen : n = (begG xs fs).length := by rw [HN.out]; exact ((begL_perm fs (evP [5] xs)).length_eq).symm
  have HLN := Lib.hid hlen
  have hnI : (n : Int) ≤ 1000000 := by have := HN.out; have := ev_length [5] xs 0; have := HM.out; unfold evP at *; simp only [List.length_map] at *; omega
  clear hlen
  go_loopw [12] (fun iv wr => ∃ k : Nat, k ≤ n ∧ iv = .int .i64 (k : Nat) ∧ Hid (∀ j, j < k → (gn xs (gz (begG xs fs) j).toNat).nd.group = (j : Int) + 1) ∧ wr = w5) (fun iv _ => n - (intOf iv).toNat)
  case atStart => exact ⟨0, Nat.zero_le _, rfl, fun j hj => absurd hj (by omega), rfl⟩
  case round =>
    obtain ⟨k, hk, rfl, HE, rfl⟩ := hrel
    by_cases hkn : k < n
    · have hkI : (k : Int) < n := by omega
      obtain ⟨g, rfl, _, cg, _, _⟩ := ownZ_at HO.out HLN.out hkn
      obtain ⟨ai, hai⟩ : ∃ z, z = gz (begG xs fs) k := ⟨_, rfl⟩
      have hin := begG_in (xs := xs) (fs := fs) (i := k) (by rw [← HLN.out]; exact hkn)
      rw [← hai] at hin
      obtain ⟨a, ha⟩ : ∃ a : Nat, ai = (a : Int) := ⟨ai.toNat, by omega⟩
      have hax : a < xs.length := by omega
      have haI : (a : Int) < m := by have := HM.out.1; omega
      have cg' : wr.cell? ⟨g, k, none⟩ = some (.int .i64 (a : Nat)) := by rw [cg]; show some (Value.int .i64 (gz (begG xs fs) k)) = _; rw [← hai, ha]
      obtain ⟨b, o, rfl, hcells, _⟩ := HL5.out.at hax
      have c3 := hcells.2.2.2.1
      obtain ⟨gr, hgr⟩ : ∃ z, z = (gn xs a).nd.group := ⟨_, rfl⟩
      rw [← hgr] at c3
      have hta : (gz (begG xs fs) k).toNat = a := by rw [← hai, ha]; simp
      have HGR : Hid (gr = (gn xs (gz (begG xs fs) k).toNat).nd.group) := by show _ = _; rw [hta]; exact hgr
      have hwr : IntKind.i64.wrap ((k : Nat) + 1 : Int) = (k : Nat) + 1 := by rw [IntKind.wrap_i64]; omega
      clear cg hai hin ha hcells hgr hta hax
      by_cases hgk : gr = (k : Int) + 1
      · have e1 : (gr != (k : Int) + 1) = false := by simpa using hgk
        have HX := Lib.hid hgk
        clear hgk
        go_wp2
        go_roundw
        case rel =>
          refine ⟨k + 1, by omega, by go_num, fun j hj => ?_, by first | rfl | trivial⟩
          by_cases hjk : j < k
          · exact HE.out j hjk
          · obtain rfl : j = k := by omega
            rw [← HGR.out]; exact HX.out
        case measure => simp [intOf]; omega
      · have e1 : (gr != (k : Int) + 1) = true := by simpa using hgk
        have HX := Lib.hid hgk
        clear hgk
        go_wp2
        go_ret
        refine ⟨?_, HB1.out.trans (HB5.out.mono (HB1.out.size))⟩
        unfold countB
        rw [countOk_bad (i := k) (by rw [← HLN.out]; exact hkn) (by rw [← HGR.out]; exact HX.out)]
        rfl
    · have hkI : (n : Int) ≤ k := by omega
      have HT2 : Hid (countOk xs (begG xs fs) = true) := countOk_of fun i hi => HE.out i (by rw [← HLN.out] at hi; omega)
      by_cases hnn : n = nm
      · have e2 : ((n : Int) == (nm : Nat)) = true := by simp [hnn]
        have HX := Lib.hid hnn
        clear hnn
        go_wp2
        go_ret
        refine ⟨?_, HB1.out.trans (HB5.out.mono (HB1.out.size))⟩
        unfold countB
        rw [HT2.out, show ((begG xs fs).length == nm) = true by rw [← HLN.out, HX.out]; simp]
        rfl
      · have e2 : ((n : Int) == (nm : Nat)) = false := by simp; omega
        have HX := Lib.hid hnn
        clear hnn
        go_wp2
        go_ret
        refine ⟨?_, HB1.out.trans (HB5.out.mono (HB1.out.size))⟩
        unfold countB
        rw [HT2.out, show ((begG xs fs).length == nm) = false by rw [← HLN.out]; simpa using HX.out]
        rfl
end Go.Proofs.YtjpccmiaimkmbaaGreat

