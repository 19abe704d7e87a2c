/- The walk of order: the library's sort at ranges, by their lower ends. -/
/- The walk of joined: sets put together, in their order. -/
import Derived.Test.YtglgfpapackcdaaGreatRe
import Derived.Test.YtglgfpapackcdaaGreatRc
import Derived.Test.YtglgfpapackcdaaGreatSort

namespace Go.Proofs.YtglgfpapackcdaaGreat
open Go.RowKit Tnr Go.Sort Go.Shelf

theorem ltLo (x y : R) : ltOf (fun x y : R => Lib.compareInt x.1 y.1) x y = decide (x.1 < y.1) := by
  unfold ltOf Lib.compareInt
  by_cases h1 : x.1 < y.1
  · simp [h1]
  · by_cases h2 : y.1 < x.1 <;> simp [h1, h2]
theorem swoLo : SWO (ltOf fun x y : R => Lib.compareInt x.1 y.1) where
  irrefl x := by rw [ltLo]; simp
  trans x y z h1 h2 := by rw [ltLo] at *; simp at *; omega
  ntrans x y z h1 h2 := by rw [ltLo] at *; simp at *; omega

set_option maxHeartbeats 800000 in
theorem cmp_any (x y : R) (W : World) : Calls Tryz.prog 152 #[.agg #[.int .i64 x.1, .int .i64 x.2], .agg #[.int .i64 y.1, .int .i64 y.2]] W fun e w' => e = .returned (.int .i64 (Lib.compareInt x.1 y.1)) ∧ ∃ q os', w' = grow (W.drewN q) os' := by
  obtain ⟨x, x'⟩ := x
  obtain ⟨y, y'⟩ := y
  have HC : Hid (Lib.compareInt x y = if x < y then -1 else if y < x then 1 else 0) := by
    show Lib.compareInt x y = _
    unfold Lib.compareInt
    by_cases h1 : x < y
    · simp [h1]
    · by_cases h2 : y < x <;> simp [h1, h2]
  by_cases h1 : x < y
  · go_enter Tryz.func152, Tryz.ntmps152
    go_wp2
    go_ret
    exact ⟨by show Ending.returned (Value.int .i64 (-1)) = _; rw [HC.out, if_pos h1], 0, _, by rw [alloc_eq_grow, alloc_eq_grow, grow_grow]; rfl⟩
  · by_cases h2 : y < x
    · go_enter Tryz.func152, Tryz.ntmps152
      go_wp2
      go_ret
      exact ⟨by show Ending.returned (Value.int .i64 1) = _; rw [HC.out, if_neg (by omega), if_pos h2], 0, _, by rw [alloc_eq_grow, alloc_eq_grow, grow_grow]; rfl⟩
    · go_enter Tryz.func152, Tryz.ntmps152
      go_wp2
      go_ret
      exact ⟨by show Ending.returned (Value.int .i64 0) = _; rw [HC.out, if_neg (by omega), if_neg (by omega)], 0, _, by rw [alloc_eq_grow, alloc_eq_grow, grow_grow]; rfl⟩

set_option maxHeartbeats 1600000 in
set_option maxRecDepth 100000 in
theorem sort_any (blk cap : Nat) (d : Array R) (w : World) (hH : HoldsK encR 2 w blk 0 d) (hblk : blk < w.heap.size) (hsz : d.size < 4611686018427387904) :
    Calls Tryz.prog 151 #[.slice (some ⟨blk, 0, none⟩) d.size cap, .func (.func 152) #[] #[]] w fun e w' =>
      e = .returned (.tuple #[]) ∧ ∃ d' n os, PermIn 0 d.size d d' ∧ SortedIn (ltOf fun x y : R => Lib.compareInt x.1 y.1) 0 d.size d' ∧ w' = sortWorldK encR 2 w blk 0 n d' os := by
  have eg : ∀ args w, (callFunc 152 args).run Tryz.prog w = .ok (.enter 152 args) w := enters_of Tryz.func152 (by kernel_rfl) rfl
  have hcmp : CmpLays Tryz.prog 152 #[] encR 2 (fun x y : R => Lib.compareInt x.1 y.1) blk 0 d.size w := fun _ _ _ _ x y => cmp_any x y _
  have hR : RowK encR 2 w blk 0 d := ⟨fun _ => rfl, fun x v hv => by simp [encR] at hv; rcases hv with rfl | rfl <;> rfl, hH, hblk⟩
  have hlim : Lib.bitLen d.size < 4611686018427387904 := Nat.lt_of_le_of_lt (Lib.bitLen_le d.size 62 (by omega) (by omega)) (by omega)
  have hp := AnyQ.pdqsortCmpFunc_all Tryz.sortF 2 Tryz.isAgg24 Tryz.sizeOf24 encR (fun x y : R => Lib.compareInt x.1 y.1) 152 #[] swoLo blk 0 cap d w eg hcmp hR (d.size + 1) 0 d.size (Lib.bitLen d.size) d w (by omega) rfl (SWK.start hH) (Nat.zero_le _) (Nat.le_refl _) hsz hlim (Or.inl rfl)
  change Calls Tryz.prog 160 _ _ _ at hp
  have hl : Calls Tryz.prog 161 #[.int .u64 (d.size : Int)] w fun e w' => e = .returned (.int .i64 (Lib.bitLen d.size : Nat)) ∧ w' = w := by
    have h := Tryz.bits_Len (d.size : Int) w (by omega) (by omega)
    rwa [Int.toNat_natCast] at h
  have wr : IntKind.u64.wrap (d.size : Int) = d.size := by simp [IntKind.wrap, IntKind.bits, IntKind.signed]; omega
  have HS := Lib.hid (pdq_sorts (ltOf fun x y : R => Lib.compareInt x.1 y.1) swoLo d 0 d.size (Lib.bitLen d.size) true true (Nat.zero_le _) (Nat.le_refl _) (Or.inl rfl))
  obtain ⟨n, hn⟩ : ∃ n, n = d.size := ⟨_, rfl⟩
  obtain ⟨bl, hbl⟩ : ∃ bl, bl = Lib.bitLen d.size := ⟨_, rfl⟩
  obtain ⟨D, hD⟩ : ∃ D, D = pdq (ltOf fun x y : R => Lib.compareInt x.1 y.1) d 0 d.size (Lib.bitLen d.size) true true := ⟨_, rfl⟩
  rw [← hD] at hp HS
  rw [← hbl] at hp hl
  rw [← hn] at hp hl wr HS ⊢
  have hnI : (n : Int) < 4611686018427387904 := by omega
  clear hH hcmp hR hsz hlim hD hbl hn eg
  go_enter Tryz.func151, Tryz.ntmps151
  go_wp2_with (first | (go_at_call 161; refine hl.mono ?_; rintro e w' ⟨rfl, rfl⟩) | (go_at_call 160; refine hp.mono ?_; rintro e w' ⟨rfl, nn, os, rfl⟩))
  go_end0
  exact ⟨rfl, D, nn, os, HS.out.1, HS.out.2, rfl⟩

set_option maxHeartbeats 1600000 in
set_option maxRecDepth 100000 in
theorem sort_none (p : Option Addr) (cap : Nat) (fv : Value) (w : World) :
    Calls Tryz.prog 151 #[.slice p 0 cap, fv] w fun e w' => e = .returned (.tuple #[]) ∧ w' = w := by
  have hp := fun lim W => AnyF.pdqsortCmpFunc_none Tryz.sortF p cap lim fv W
  change ∀ lim W, Calls Tryz.prog 160 _ _ _ at hp
  have hl : ∀ W, Calls Tryz.prog 161 #[.int .u64 0] W fun e w' => e = .returned (.int .i64 (Lib.bitLen 0 : Nat)) ∧ w' = W := fun W => by
    have h := Tryz.bits_Len 0 W (by omega) (by omega)
    exact h
  go_enter Tryz.func151, Tryz.ntmps151
  go_wp2_with (first | (go_at_call 161; refine (hl _).mono ?_; rintro e w' ⟨rfl, rfl⟩) | (go_at_call 160; refine (hp _ _).mono ?_; rintro e w' ⟨rfl, rfl⟩))
  go_end0
  exact ⟨rfl, rfl⟩

theorem perm_of {l : List R} {d' : Array R} (h : PermIn 0 l.toArray.size l.toArray d') : l.Perm d'.toList := by
  obtain ⟨h1, _, h3⟩ := h
  rw [← h1] at h3
  rw [Array.extract_size] at h3
  have e : l.toArray.extract 0 d'.size = l.toArray := by rw [h1, Array.extract_size]
  rw [e] at h3
  exact h3.symm
theorem sorted_of {d : Array R} (h : SortedIn (ltOf fun x y : R => Lib.compareInt x.1 y.1) 0 d.size d) : Sorted d.toList := by
  unfold Sorted
  rw [List.pairwise_iff_getElem]
  intro i j hi hj hij
  have := h i j (Nat.zero_le _) hij (by simpa using hj)
  rw [ltLo, decide_eq_false_iff_not, getElem!_pos d i (by simpa using hi), getElem!_pos d j (by simpa using hj)] at this
  simp only [Array.getElem_toList]
  omega

def OrderPost (B : Nat) (v : Value) (l : List R) (w : World) (e : Ending) (w' : World) : Prop :=
  e = .returned (.tuple #[]) ∧ ∃ d, l.Perm d ∧ Sorted d ∧ OwnR w' B v d ∧ w.grownBy w' v.ownBlock

set_option maxHeartbeats 1600000 in
set_option maxRecDepth 100000 in
theorem order_any (p : Option Addr) (c B : Nat) (l : List R) (w : World) (ho : OwnR w B (.slice p l.length c) l) (hl : l.length ≤ 1000000000) :
    Calls Tryz.prog 122 #[.slice p l.length c] w (OrderPost B (.slice p l.length c) l w) := by
  by_cases h0 : l = []
  · subst h0
    have hs := fun fv W => sort_none p c fv W
    have HO := Lib.hid ho
    clear ho
    go_enter Tryz.func122, Tryz.ntmps122
    go_wp2_with (go_at_call 151; refine (hs _ _).mono ?_; rintro e w' ⟨rfl, rfl⟩)
    go_end0
    exact ⟨rfl, [], List.Perm.nil, List.Pairwise.nil, HO.out, World.grownBy.refl _ _⟩
  · have h' := ho
    rcases ho.2 with ⟨e1, hn⟩ | ⟨g, cap, cur, e1, hb, hg, hnc, hcm, hcs, htake⟩
    · exact absurd (List.eq_nil_of_length_eq_zero hn) h0
    simp only [Value.slice.injEq, true_and] at e1
    obtain ⟨rfl, rfl⟩ := e1
    have hs := sort_any g c l.toArray w (holdsK_of_block hg htake) (lt_of_block hg) (by simp; omega)
    have HE := Lib.hid (fun (d : List R) (n : Nat) (os : Array Obj) (hd : d.length = l.length) => ownR_sorted (n := n) (os := os) (d := d) hd hb hg hnc hcm hcs)
    rw [List.size_toArray] at hs
    clear h' hb hg hnc hcm hcs htake h0 ho
    obtain ⟨m, hm⟩ : ∃ m, m = l.length := ⟨_, rfl⟩
    rw [← hm] at hs ⊢
    have HM := Lib.hid hm
    clear hm hl
    go_enter Tryz.func122, Tryz.ntmps122
    go_wp2_with (go_at_call 151; refine hs.mono ?_; rintro e w' ⟨rfl, d', n, os, hp, hss, rfl⟩)
    go_end0
    have e2 : d'.size = m := by rw [hp.1, List.size_toArray, HM.out]
    have hpm : l.Perm d'.toList := perm_of (by rw [List.size_toArray, ← HM.out]; exact hp)
    refine ⟨rfl, d'.toList, hpm, sorted_of (by rw [e2]; exact hss), ?_, grownBy_sortedK _⟩
    have := HE.out d'.toList n os hpm.length_eq.symm
    rw [← HM.out] at this
    exact this
end Go.Proofs.YtglgfpapackcdaaGreat


namespace Go.Proofs.YtglgfpapackcdaaGreat
open Go.RowKit Tnr

abbrev SV := Option Addr × Nat × List R
def flat (xs : List SV) : List R := xs.flatMap fun x => x.2.2
theorem flat_append (xs ys : List SV) : flat (xs ++ ys) = flat xs ++ flat ys := by simp [flat]
def gs (xs : List SV) (i : Nat) : SV := xs.getD i (none, 0, [])
theorem gs_get {l : List SV} {i : Nat} (h : i < l.length) : gs l i = l[i] := by
  unfold gs
  rw [List.getD_eq_getElem?_getD, List.getElem?_eq_getElem h]; rfl
theorem take_gs {l : List SV} {k : Nat} (h : k < l.length) : l.take (k + 1) = l.take k ++ [gs l k] := by
  rw [gs_get h, List.take_add_one, List.getElem?_eq_getElem h]; rfl
theorem take_gr {l : List R} {k : Nat} (h : k < l.length) : l.take (k + 1) = l.take k ++ [gr l k] := by
  rw [gr_get h, List.take_add_one, List.getElem?_eq_getElem h]; rfl
theorem flat_take_le (xs : List SV) (k : Nat) : (flat (xs.take k)).length ≤ (flat xs).length := by
  have h : flat xs = flat (xs.take k) ++ flat (xs.drop k) := by rw [← flat_append, List.take_append_drop]
  rw [h, List.length_append]; omega
theorem flat_one_le {xs : List SV} {k : Nat} (h : k < xs.length) : (flat (xs.take k)).length + (gs xs k).2.2.length ≤ (flat xs).length := by
  have h1 := flat_take_le xs (k + 1)
  rw [take_gs h, flat_append] at h1
  have e : flat [gs xs k] = (gs xs k).2.2 := by simp [flat]
  rw [e, List.length_append] at h1
  exact h1
def SlS (w : World) (p : Option Addr) (xs : List SV) : Prop :=
  (∀ x ∈ xs, SlR w x.1 x.2.2) ∧ (xs = [] ∨ ∃ b off, p = some ⟨b, off, none⟩ ∧ ∀ i, i < xs.length → w.cell? ⟨b, off + i, none⟩ = some (.slice (gs xs i).1 (gs xs i).2.2.length (gs xs i).2.1))
theorem SlS.below {w w' : World} {p : Option Addr} {xs : List SV} (h : SlS w p xs) (hb : Below w.heap.size w w') : SlS w' p xs := by
  refine ⟨fun x hx => (h.1 x hx).below hb, ?_⟩
  rcases h.2 with h | ⟨b, off, h1, h2⟩
  · exact .inl h
  · exact .inr ⟨b, off, h1, fun i hi => by rw [hb.cell (World.block_lt_of_cell? w _ (h2 i hi))]; exact h2 i hi⟩
theorem sls_at {w : World} {p : Option Addr} {xs : List SV} (h : SlS w p xs) {k : Nat} (hk : k < xs.length) :
    ∃ b off, p = some ⟨b, off, none⟩ ∧ w.cell? ⟨b, off + k, none⟩ = some (.slice (gs xs k).1 (gs xs k).2.2.length (gs xs k).2.1) := by
  rcases h.2 with h | ⟨b, off, h1, h2⟩
  · rw [h] at hk; simp at hk
  · exact ⟨b, off, h1, h2 k hk⟩

def JoinedPost (xs : List SV) (w : World) (e : Ending) (w' : World) : Prop :=
  ∃ q cq d, e = .returned (.agg #[.slice q d.length cq]) ∧ OwnR w' w.heap.size (.slice q d.length cq) d ∧ (puts [] (flat xs)).Perm d ∧ Sorted d ∧ Below w.heap.size w w'

set_option maxHeartbeats 3200000 in
set_option maxRecDepth 100000 in
theorem joined_any (p : Option Addr) (c : Nat) (xs : List SV) (w : World) (hx : SlS w p xs) (hl : (flat xs).length ≤ 100000000) (hn : xs.length ≤ 100000000) :
    Calls Tryz.prog 79 #[.slice p xs.length c] w (JoinedPost xs w) := by
  have HX := Lib.hid hx
  have HL := Lib.hid hl
  obtain ⟨n, hnn⟩ : ∃ n, n = xs.length := ⟨_, rfl⟩
  rw [← hnn]
  have hnI : (n : Int) ≤ 100000000 := by omega
  have HN := Lib.hid hnn
  clear hx hl hn hnn
  go_enter Tryz.func79, Tryz.ntmps79
  go_wp2
  obtain ⟨B, hB⟩ : ∃ B, B = w.heap.size := ⟨_, rfl⟩
  rw [← hB]
  have HB := Lib.hid hB
  go_loopw [10] (fun iv wr => ∃ (k : Nat) (l : List R), k ≤ n ∧ iv = .int .i64 (k : Nat) ∧ Hid (l = puts [] (flat (xs.take k))) ∧ Hid (BoxR wr (B + 1) B 134 l) ∧ Hid (Below B w wr) ∧ Hid (Boxed wr B 134 (.slice none 0 0))) (fun iv _ => n - (intOf iv).toNat)
  case atStart =>
    have h1 := Boxed.new w 134 (.slice none 0 0)
    have h2 := Boxed.new (w.alloc (.cells #[.slice none 0 0] 134)) 134 (.slice none 0 0)
    rw [World.size_alloc] at h2
    rw [← hB] at h1 h2
    exact ⟨0, [], Nat.zero_le _, rfl, rfl, ⟨none, 0, h2, ownR_nil _ _⟩, by rw [hB]; exact bl_trans (bl_alloc _ _) (bl_alloc _ _), h1.alloc _⟩
  case round =>
    obtain ⟨k, l, hk, rfl, HE, HBX, HBL, HRV⟩ := hrel
    rename World => wr
    have hbs := HB.out
    clear hB
    by_cases hkn : k < n
    · have hkx : k < xs.length := by have := HN.out; omega
      obtain ⟨bp, op, rfl, hcell⟩ := sls_at (HX.out.below (by rw [← hbs]; exact HBL.out)) hkx
      have hkI : (k : Int) < n := by omega
      obtain ⟨pa, ca, la, hga⟩ : ∃ pa ca la, gs xs k = (pa, ca, la) := ⟨_, _, _, rfl⟩
      rw [hga] at hcell
      have HA : Hid (SlR w pa la) := by
        have h := HX.out.1 (gs xs k) (by rw [gs_get hkx]; exact List.getElem_mem hkx)
        rw [hga] at h
        exact h
      have HLA : Hid ((flat (xs.take k)).length + la.length ≤ 100000000) := by
        have h1 := flat_one_le hkx
        rw [hga] at h1
        have h2 := HL.out
        exact Nat.le_trans h1 h2
      have HE2 : Hid (puts l la = puts [] (flat (xs.take (k + 1)))) := by
        show puts l la = _
        rw [take_gs hkx, flat_append, puts_append, ← HE.out]
        have e : flat [gs xs k] = la := by rw [hga]; simp [flat]
        rw [e]
      have HLL : Hid (l.length ≤ (flat (xs.take k)).length) := by
        have := puts_length (flat (xs.take k)) []
        rw [← HE.out] at this
        rw [List.length_nil, Nat.zero_add] at this
        exact this
      obtain ⟨m, hm⟩ : ∃ m, m = la.length := ⟨_, rfl⟩
      rw [← hm] at hcell
      have HM := Lib.hid hm
      have hmI : (m : Int) ≤ 100000000 := by have := HLA.out; omega
      clear hga hm hkx hbs
      go_wp2
      go_loopw [16] (fun jv wq => ∃ (j : Nat) (l' : List R), j ≤ m ∧ jv = .int .i64 (j : Nat) ∧ Hid (l' = puts l (la.take j)) ∧ Hid (BoxR wq (B + 1) B 134 l') ∧ Hid (Below B w wq) ∧ Hid (Boxed wq B 134 (.slice none 0 0))) (fun jv _ => m - (intOf jv).toNat)
      case atStart => exact ⟨0, l, Nat.zero_le _, rfl, rfl, HBX.out, HBL.out, HRV.out⟩
      case round =>
        obtain ⟨j, l', hj, rfl, HE', HBX', HBL', HRV'⟩ := hrel
        rename World => wq
        have hbs := HB.out
        by_cases hjm : j < m
        · have hjl : j < la.length := by have := HM.out; omega
          obtain ⟨b, o, rfl, hc1, hc2⟩ := slr_at (HA.out.below (by rw [← hbs]; exact HBL'.out) : SlR wq pa la) hjl
          have hjI : (j : Int) < m := by omega
          have HE3 : Hid (put l' (gr la j) = puts l (la.take (j + 1))) := by
            show put l' (gr la j) = _
            rw [take_gr hjl, puts_append, ← HE'.out]; rfl
          have HLP : Hid (l'.length ≤ 1000000000) := by
            have h1 := puts_length (la.take j) l
            rw [← HE'.out, List.length_take] at h1
            have h2 := HLL.out
            have h3 := HLA.out
            show l'.length ≤ 1000000000
            omega
          obtain ⟨lo, hlo⟩ : ∃ x, x = (gr la j).1 := ⟨_, rfl⟩
          obtain ⟨hi, hhi⟩ : ∃ x, x = (gr la j).2 := ⟨_, rfl⟩
          rw [← hlo] at hc1
          rw [← hhi] at hc2
          have HGR := Lib.hid (show gr la j = (lo, hi) from Prod.ext hlo.symm hhi.symm)
          have hwq := HBL'.out.size
          have hbB : B ≤ wq.heap.size := by rw [hbs]; exact hwq
          have HPUT := Lib.hid (put_any (B + 1) B 134 l' (lo, hi) (wq.alloc (.cells #[.int .i64 lo, .int .i64 hi] 24)) (by decide) (HBX'.out.below (bl_alloc _ _)) (by omega) HLP.out)
          have HX2 := Lib.hid (HBX'.out.below (bl_alloc wq (.cells #[.int .i64 lo, .int .i64 hi] 24)))
          have HRV2 := Lib.hid (HRV'.out.alloc (.cells #[.int .i64 lo, .int .i64 hi] 24))
          have HB2 := Lib.hid (HBL'.out.alloc hbB (.cells #[.int .i64 lo, .int .i64 hi] 24))
          clear hlo hhi hwq hbB hbs hjl
          go_wp2_with (go_at_call 121; refine HPUT.out.mono ?_; rintro e w5 ⟨rfl, hx5, _, hb5, hs5⟩; have HX5 := Lib.hid hx5; have HB5 := Lib.hid hb5; have HS5 := Lib.hid hs5; clear hx5 hb5 hs5)
          go_roundw
          case rel =>
            refine ⟨j + 1, put l' (lo, hi), by omega, by go_num, ?_, HX5.out, HB2.out.trans HB5.out, ?_⟩
            · show put l' (lo, hi) = _
              rw [← HGR.out]; exact HE3.out
            · exact (HS5.out B HRV2.out.lt (by omega) (BoxR.ne HX2.out (show _ = _ from HRV2.out) (by decide))).trans HRV2.out
          case measure => simp [intOf]; omega
        · have hjI : (m : Int) ≤ j := by omega
          have HE3 : Hid (l' = puts [] (flat (xs.take (k + 1)))) := by
            show l' = _
            rw [HE'.out, List.take_of_length_le (by have := HM.out; omega), HE2.out]
          clear hbs
          go_wp2
          go_roundw
          case rel => exact ⟨k + 1, l', by omega, by go_num, HE3.out, HBX'.out, HBL'.out, HRV'.out⟩
          case measure => simp [intOf]; omega
    · have hkI : (n : Int) ≤ k := by omega
      have HE3 : Hid (l = puts [] (flat xs)) := by
        show l = _
        rw [HE.out, List.take_of_length_le (by have := HN.out; omega)]
      have HLL : Hid (l.length ≤ 1000000000) := by
        have h1 := puts_length (flat xs) []
        rw [← HE3.out, List.length_nil] at h1
        have h2 := HL.out
        show l.length ≤ 1000000000
        omega
      obtain ⟨q, cq, hbx, hown⟩ := HBX.out
      have hc := hbx.cell
      have hf := hbx.frozen
      have hrc := HRV.out.cell
      have hrf := HRV.out.frozen
      have HBXX := Lib.hid hbx
      have HOW := Lib.hid hown
      have HNE := Lib.hid (ownR_ne hown hbx (by decide))
      have HNE2 := Lib.hid (ownR_ne hown (show wr.heap[B]? = _ from HRV.out) (by decide))
      have HORD := Lib.hid (order_any q cq B l wr hown HLL.out)
      clear hbx hown hbs
      go_wp2_with (go_at_call 122; refine HORD.out.mono ?_; rintro e w5 ⟨rfl, d, hp5, hs5, ho5, hg5⟩; have hb1 := Boxed.kept HBXX.out hg5 (Ne.symm HNE.out); have hb2 := Boxed.kept HRV.out hg5 (Ne.symm HNE2.out); have hc5 := hb1.cell; have hf5 := hb1.frozen; have hr5 := hb2.cell; have hrf5 := hb2.frozen; have HB1 := Lib.hid hb1; have HB2 := Lib.hid hb2; have HP5 := Lib.hid hp5; have HS5 := Lib.hid hs5; have HO5 := Lib.hid ho5; have HG5 := Lib.hid hg5; clear hb1 hb2 hp5 hs5 ho5 hg5)
      have hcr : (w5.setCell ⟨B, 0, none⟩ (.slice q l.length cq)).cell? ⟨B, 0, none⟩ = some (.slice q l.length cq) := (HB2.out.set _).cell
      have e1 := HP5.out.length_eq
      refine bodyPost_ret (v := .agg #[.slice q l.length cq]) (by simp [results, Tryz.results79, go_sem, hcr]) rfl ?_
      have hbs := HB.out
      refine ⟨q, cq, d, by rw [e1], ?_, by rw [← HE3.out]; exact HP5.out, HS5.out, ?_⟩
      · rw [← e1, ← hbs]
        exact ownsRow_setCell_other (a := ⟨B, 0, none⟩) HO5.out (ownR_ne HO5.out (show w5.heap[B]? = _ from HB2.out) (by decide)) _
      · rw [← hbs]
        exact (HBL.out.grown HG5.out (by have := HBL.out.size; omega) (fun k hk => (HOW.out.lt k hk).1)).setCell (Nat.le_refl _) _
end Go.Proofs.YtglgfpapackcdaaGreat

