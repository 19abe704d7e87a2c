/- The walk of joined: sets put together, in their order. -/
import Derived.Test.YtgcgclmfjlecaaaGreatRf

namespace Go.Proofs.YtgcgclmfjlecaaaGreat
open Go.RowKit Tnr

abbrev SV := Option Addr × Nat × List R
def flat (xs : List SV) : List R := xs.flatMap fun x => x.2.2
theorem flat_cons (x : SV) (xs : List SV) : flat (x :: xs) = x.2.2 ++ flat xs := rfl
theorem flat_append (xs ys : List SV) : flat (xs ++ ys) = flat xs ++ flat ys := by simp [flat]
def gs (xs : List SV) (i : Nat) : SV := xs.getD i (none, 0, [])
theorem gs_get {l : List SV} {i : Nat} (h : i < l.length) : gs l i = l[i] := by
  unfold gs
  rw [List.getD_eq_getElem?_getD, List.getElem?_eq_getElem h]; rfl
theorem take_gs {l : List SV} {k : Nat} (h : k < l.length) : l.take (k + 1) = l.take k ++ [gs l k] := by
  rw [gs_get h, List.take_add_one, List.getElem?_eq_getElem h]; rfl
theorem take_gr {l : List R} {k : Nat} (h : k < l.length) : l.take (k + 1) = l.take k ++ [gr l k] := by
  rw [gr_get h, List.take_add_one, List.getElem?_eq_getElem h]; rfl
theorem flat_take_le (xs : List SV) (k : Nat) : (flat (xs.take k)).length ≤ (flat xs).length := by
  have h : flat xs = flat (xs.take k) ++ flat (xs.drop k) := by rw [← flat_append, List.take_append_drop]
  rw [h, List.length_append]; omega
theorem flat_one_le {xs : List SV} {k : Nat} (h : k < xs.length) : (flat (xs.take k)).length + (gs xs k).2.2.length ≤ (flat xs).length := by
  have h1 := flat_take_le xs (k + 1)
  rw [take_gs h, flat_append] at h1
  have e : flat [gs xs k] = (gs xs k).2.2 := by simp [flat]
  rw [e, List.length_append] at h1
  exact h1
/-- a slice of slices of ranges. -/
def SlS (w : World) (p : Option Addr) (xs : List SV) : Prop :=
  (∀ x ∈ xs, SlR w x.1 x.2.2) ∧ (xs = [] ∨ ∃ b off, p = some ⟨b, off, none⟩ ∧ ∀ i, i < xs.length → w.cell? ⟨b, off + i, none⟩ = some (.slice (gs xs i).1 (gs xs i).2.2.length (gs xs i).2.1))
theorem SlS.below {w w' : World} {p : Option Addr} {xs : List SV} (h : SlS w p xs) (hb : Below w.heap.size w w') : SlS w' p xs := by
  refine ⟨fun x hx => (h.1 x hx).below hb, ?_⟩
  rcases h.2 with h | ⟨b, off, h1, h2⟩
  · exact .inl h
  · exact .inr ⟨b, off, h1, fun i hi => by rw [hb.cell (World.block_lt_of_cell? w _ (h2 i hi))]; exact h2 i hi⟩
theorem sls_at {w : World} {p : Option Addr} {xs : List SV} (h : SlS w p xs) {k : Nat} (hk : k < xs.length) :
    ∃ b off, p = some ⟨b, off, none⟩ ∧ w.cell? ⟨b, off + k, none⟩ = some (.slice (gs xs k).1 (gs xs k).2.2.length (gs xs k).2.1) := by
  rcases h.2 with h | ⟨b, off, h1, h2⟩
  · rw [h] at hk; simp at hk
  · exact ⟨b, off, h1, h2 k hk⟩

def JoinedPost (xs : List SV) (w : World) (e : Ending) (w' : World) : Prop :=
  ∃ q cq d, e = .returned (.agg #[.slice q d.length cq]) ∧ OwnR w' w.heap.size (.slice q d.length cq) d ∧ (puts [] (flat xs)).Perm d ∧ Sorted d ∧ Below w.heap.size w w'

set_option maxHeartbeats 3200000 in
set_option maxRecDepth 100000 in
theorem joined_any (p : Option Addr) (c : Nat) (xs : List SV) (w : World) (hx : SlS w p xs) (hl : (flat xs).length ≤ 100000000) (hn : xs.length ≤ 100000000) :
    Calls Tryz.prog 57 #[.slice p xs.length c] w (JoinedPost xs w) := by
  have HX := Lib.hid hx
  have HL := Lib.hid hl
  obtain ⟨n, hnn⟩ : ∃ n, n = xs.length := ⟨_, rfl⟩
  rw [← hnn]
  have hnI : (n : Int) ≤ 100000000 := by omega
  have HN := Lib.hid hnn
  clear hx hl hn hnn
  go_enter Tryz.func57, Tryz.ntmps57
  go_wp2
  obtain ⟨B, hB⟩ : ∃ B, B = w.heap.size := ⟨_, rfl⟩
  rw [← hB]
  have HB := Lib.hid hB
  go_loopw [10] (fun iv wr => ∃ (k : Nat) (l : List R), k ≤ n ∧ iv = .int .i64 (k : Nat) ∧ Hid (l = puts [] (flat (xs.take k))) ∧ Hid (BoxR wr (B + 1) B 107 l) ∧ Hid (Below B w wr) ∧ Hid (Boxed wr B 107 (.slice none 0 0))) (fun iv _ => n - (intOf iv).toNat)
  case atStart =>
    have h1 := Boxed.new w 107 (.slice none 0 0)
    have h2 := Boxed.new (w.alloc (.cells #[.slice none 0 0] 107)) 107 (.slice none 0 0)
    rw [World.size_alloc] at h2
    rw [← hB] at h1 h2
    exact ⟨0, [], Nat.zero_le _, rfl, rfl, ⟨none, 0, h2, ownR_nil _ _⟩, by rw [hB]; exact bl_trans (bl_alloc _ _) (bl_alloc _ _), h1.alloc _⟩
  case round =>
    obtain ⟨k, l, hk, rfl, HE, HBX, HBL, HRV⟩ := hrel
    rename World => wr
    have hbs := HB.out
    clear hB
    by_cases hkn : k < n
    · have hkx : k < xs.length := by have := HN.out; omega
      obtain ⟨bp, op, rfl, hcell⟩ := sls_at (HX.out.below (by rw [← hbs]; exact HBL.out)) hkx
      have hkI : (k : Int) < n := by omega
      obtain ⟨pa, ca, la, hga⟩ : ∃ pa ca la, gs xs k = (pa, ca, la) := ⟨_, _, _, rfl⟩
      rw [hga] at hcell
      have HA : Hid (SlR w pa la) := by
        have h := HX.out.1 (gs xs k) (by rw [gs_get hkx]; exact List.getElem_mem hkx)
        rw [hga] at h
        exact h
      have HLA : Hid ((flat (xs.take k)).length + la.length ≤ 100000000) := by
        have h1 := flat_one_le hkx
        rw [hga] at h1
        have h2 := HL.out
        exact Nat.le_trans h1 h2
      have HE2 : Hid (puts l la = puts [] (flat (xs.take (k + 1)))) := by
        show puts l la = _
        rw [take_gs hkx, flat_append, puts_append, ← HE.out]
        have e : flat [gs xs k] = la := by rw [hga]; simp [flat]
        rw [e]
      have HLL : Hid (l.length ≤ (flat (xs.take k)).length) := by
        have := puts_length (flat (xs.take k)) []
        rw [← HE.out] at this
        rw [List.length_nil, Nat.zero_add] at this
        exact this
      obtain ⟨m, hm⟩ : ∃ m, m = la.length := ⟨_, rfl⟩
      rw [← hm] at hcell
      have HM := Lib.hid hm
      have hmI : (m : Int) ≤ 100000000 := by have := HLA.out; omega
      clear hga hm hkx hbs
      go_wp2
      go_loopw [16] (fun jv wq => ∃ (j : Nat) (l' : List R), j ≤ m ∧ jv = .int .i64 (j : Nat) ∧ Hid (l' = puts l (la.take j)) ∧ Hid (BoxR wq (B + 1) B 107 l') ∧ Hid (Below B w wq) ∧ Hid (Boxed wq B 107 (.slice none 0 0))) (fun jv _ => m - (intOf jv).toNat)
      case atStart => exact ⟨0, l, Nat.zero_le _, rfl, rfl, HBX.out, HBL.out, HRV.out⟩
      case round =>
        obtain ⟨j, l', hj, rfl, HE', HBX', HBL', HRV'⟩ := hrel
        rename World => wq
        have hbs := HB.out
        by_cases hjm : j < m
        · have hjl : j < la.length := by have := HM.out; omega
          obtain ⟨b, o, rfl, hc1, hc2⟩ := slr_at (HA.out.below (by rw [← hbs]; exact HBL'.out) : SlR wq pa la) hjl
          have hjI : (j : Int) < m := by omega
          have HE3 : Hid (put l' (gr la j) = puts l (la.take (j + 1))) := by
            show put l' (gr la j) = _
            rw [take_gr hjl, puts_append, ← HE'.out]; rfl
          have HLP : Hid (l'.length ≤ 1000000000) := by
            have h1 := puts_length (la.take j) l
            rw [← HE'.out, List.length_take] at h1
            have h2 := HLL.out
            have h3 := HLA.out
            show l'.length ≤ 1000000000
            omega
          obtain ⟨lo, hlo⟩ : ∃ x, x = (gr la j).1 := ⟨_, rfl⟩
          obtain ⟨hi, hhi⟩ : ∃ x, x = (gr la j).2 := ⟨_, rfl⟩
          rw [← hlo] at hc1
          rw [← hhi] at hc2
          have HGR := Lib.hid (show gr la j = (lo, hi) from Prod.ext hlo.symm hhi.symm)
          have hwq := HBL'.out.size
          have hbB : B ≤ wq.heap.size := by rw [hbs]; exact hwq
          have HPUT := Lib.hid (put_any (B + 1) B 107 l' (lo, hi) (wq.alloc (.cells #[.int .i64 lo, .int .i64 hi] 41)) (by decide) (HBX'.out.below (bl_alloc _ _)) (by omega) HLP.out)
          have HX2 := Lib.hid (HBX'.out.below (bl_alloc wq (.cells #[.int .i64 lo, .int .i64 hi] 41)))
          have HRV2 := Lib.hid (HRV'.out.alloc (.cells #[.int .i64 lo, .int .i64 hi] 41))
          have HB2 := Lib.hid (HBL'.out.alloc hbB (.cells #[.int .i64 lo, .int .i64 hi] 41))
          clear hlo hhi hwq hbB hbs hjl
          go_wp2_with (go_at_call 94; refine HPUT.out.mono ?_; rintro e w5 ⟨rfl, hx5, _, hb5, hs5⟩; have HX5 := Lib.hid hx5; have HB5 := Lib.hid hb5; have HS5 := Lib.hid hs5; clear hx5 hb5 hs5)
          go_roundw
          case rel =>
            refine ⟨j + 1, put l' (lo, hi), by omega, by go_num, ?_, HX5.out, HB2.out.trans HB5.out, ?_⟩
            · show put l' (lo, hi) = _
              rw [← HGR.out]; exact HE3.out
            · exact (HS5.out B HRV2.out.lt (by omega) (BoxR.ne HX2.out (show _ = _ from HRV2.out) (by decide))).trans HRV2.out
          case measure => simp [intOf]; omega
        · have hjI : (m : Int) ≤ j := by omega
          have HE3 : Hid (l' = puts [] (flat (xs.take (k + 1)))) := by
            show l' = _
            rw [HE'.out, List.take_of_length_le (by have := HM.out; omega), HE2.out]
          clear hbs
          go_wp2
          go_roundw
          case rel => exact ⟨k + 1, l', by omega, by go_num, HE3.out, HBX'.out, HBL'.out, HRV'.out⟩
          case measure => simp [intOf]; omega
    · have hkI : (n : Int) ≤ k := by omega
      have HE3 : Hid (l = puts [] (flat xs)) := by
        show l = _
        rw [HE.out, List.take_of_length_le (by have := HN.out; omega)]
      have HLL : Hid (l.length ≤ 1000000000) := by
        have h1 := puts_length (flat xs) []
        rw [← HE3.out, List.length_nil] at h1
        have h2 := HL.out
        show l.length ≤ 1000000000
        omega
      obtain ⟨q, cq, hbx, hown⟩ := HBX.out
      have hc := hbx.cell
      have hf := hbx.frozen
      have hrc := HRV.out.cell
      have hrf := HRV.out.frozen
      have HBXX := Lib.hid hbx
      have HOW := Lib.hid hown
      have HNE := Lib.hid (ownR_ne hown hbx (by decide))
      have HNE2 := Lib.hid (ownR_ne hown (show wr.heap[B]? = _ from HRV.out) (by decide))
      have HORD := Lib.hid (order_any q cq B l wr hown HLL.out)
      clear hbx hown hbs
      go_wp2_with (go_at_call 95; refine HORD.out.mono ?_; rintro e w5 ⟨rfl, d, hp5, hs5, ho5, hg5⟩; have hb1 := Boxed.kept HBXX.out hg5 (Ne.symm HNE.out); have hb2 := Boxed.kept HRV.out hg5 (Ne.symm HNE2.out); have hc5 := hb1.cell; have hf5 := hb1.frozen; have hr5 := hb2.cell; have hrf5 := hb2.frozen; have HB1 := Lib.hid hb1; have HB2 := Lib.hid hb2; have HP5 := Lib.hid hp5; have HS5 := Lib.hid hs5; have HO5 := Lib.hid ho5; have HG5 := Lib.hid hg5; clear hb1 hb2 hp5 hs5 ho5 hg5)
      have hcr : (w5.setCell ⟨B, 0, none⟩ (.slice q l.length cq)).cell? ⟨B, 0, none⟩ = some (.slice q l.length cq) := (HB2.out.set _).cell
      have e1 := HP5.out.length_eq
      refine bodyPost_ret (v := .agg #[.slice q l.length cq]) (by simp [results, Tryz.results57, go_sem, hcr]) rfl ?_
      have hbs := HB.out
      refine ⟨q, cq, d, by rw [e1], ?_, by rw [← HE3.out]; exact HP5.out, HS5.out, ?_⟩
      · rw [← e1, ← hbs]
        exact ownsRow_setCell_other (a := ⟨B, 0, none⟩) HO5.out (ownR_ne HO5.out (show w5.heap[B]? = _ from HB2.out) (by decide)) _
      · rw [← hbs]
        exact (HBL.out.grown HG5.out (by have := HBL.out.size; omega) (fun k hk => (HOW.out.lt k hk).1)).setCell (Nat.le_refl _) _
end Go.Proofs.YtgcgclmfjlecaaaGreat
