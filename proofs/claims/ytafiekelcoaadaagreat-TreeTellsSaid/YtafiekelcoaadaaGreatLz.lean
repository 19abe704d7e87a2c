/- The walk of counted. -/
import Derived.Test.YtafiekelcoaadaaGreatLy

namespace Go.Proofs.YtafiekelcoaadaaGreat
open Go.RowKit Tnr Tnt

/-- do the groups at some places count from 1 on? -/
def countOk (xs : List NV) (ps : List Int) : Bool := (List.range ps.length).all fun i => (gn xs (gz ps i).toNat).nd.group == (i : Int) + 1
def begG (xs : List NV) (fs : List Int) : List Int := begL fs (evP [5] xs)
def countB (xs : List NV) (fs : List Int) (nm : Nat) : Bool := countOk xs (begG xs fs) && (begG xs fs).length == nm
theorem countOk_of {xs : List NV} {ps : List Int} (h : ∀ i, i < ps.length → (gn xs (gz ps i).toNat).nd.group = (i : Int) + 1) : countOk xs ps = true := by
  unfold countOk; rw [List.all_eq_true]; intro i hi; simpa using h i (List.mem_range.1 hi)
theorem countOk_bad {xs : List NV} {ps : List Int} {i : Nat} (hi : i < ps.length) (h : (gn xs (gz ps i).toNat).nd.group ≠ (i : Int) + 1) : countOk xs ps = false := by
  unfold countOk; rw [List.all_eq_false]; exact ⟨i, List.mem_range.2 hi, by simpa using h⟩
theorem begG_in {xs : List NV} {fs : List Int} {i : Nat} (hi : i < (begG xs fs).length) : 0 ≤ gz (begG xs fs) i ∧ gz (begG xs fs) i < xs.length := by
  rw [gz_get hi]
  have h := (begL_perm fs (evP [5] xs)).subset (List.getElem_mem (l := begG xs fs) hi)
  obtain ⟨x, hx, e⟩ := List.mem_map.1 h
  have := ev_range [5] xs 0 x hx
  rw [← e]; omega
set_option maxHeartbeats 1600000 in
set_option maxRecDepth 100000 in
theorem counted_any (p : Option Addr) (m c : Nat) (xs : List NV) (pf pd : Option Addr) (cf cd nm : Nat) (fs : List Int) (w : World) (hm : m = xs.length) (h1m : 1 ≤ m) (hld : m ≤ 1000000) (hL : SlN w p xs) (hfs : m = fs.length) (hF : SlZ w pf fs) :
    Calls Tryz.prog 80 #[.agg #[.slice p m c, .slice pf m cf, .slice pd m cd], .int .i64 (nm : Nat)] w fun e w' => e = .returned (.bool (countB xs fs nm)) ∧ Below w.heap.size w w' := by
  have hb1 := bl_alloc w (.cells #[.slice p m c, .slice pf m cf, .slice pd m cd] 68)
  have HBG := Lib.hid (begun_any p m c xs pf cf (.slice pd m cd) fs 5 (w.alloc (.cells #[.slice p m c, .slice pf m cf, .slice pd m cd] 68)) hm h1m hld (hL.below hb1) hfs (hF.below hb1))
  have HT := Lib.hid (Bx.new w 68 #[.slice p m c, .slice pf m cf, .slice pd m cd])
  have HB1 := Lib.hid hb1
  have HL := Lib.hid (hL.below hb1)
  have HM := Lib.hid (And.intro hm hld)
  have hmI : (m : Int) ≤ 1000000 := by omega
  clear hm hld hL hfs hF h1m hb1
  go_enter Tryz.func80, Tryz.ntmps80
  go_wp2_with (go_at_call 124; refine (HBG.out).mono ?_; rintro e w5 ⟨r, n, cr, rfl, hn, hO, hb5⟩; have hT5 := HT.out.below hb5; have cT := hT5.cell (i := 0) (v := .slice p m c) rfl; have HO := Lib.hid hO; have HN := Lib.hid hn; have HB5 := Lib.hid hb5; have HL5 := Lib.hid (HL.out.below hb5); clear hn hO hb5 hT5)
  have hlen : n = (begG xs fs).length := by rw [HN.out]; exact ((begL_perm fs (evP [5] xs)).length_eq).symm
  have HLN := Lib.hid hlen
  have hnI : (n : Int) ≤ 1000000 := by have := HN.out; have := ev_length [5] xs 0; have := HM.out; unfold evP at *; simp only [List.length_map] at *; omega
  clear hlen
  go_loopw [12] (fun iv wr => ∃ k : Nat, k ≤ n ∧ iv = .int .i64 (k : Nat) ∧ Hid (∀ j, j < k → (gn xs (gz (begG xs fs) j).toNat).nd.group = (j : Int) + 1) ∧ wr = w5) (fun iv _ => n - (intOf iv).toNat)
  case atStart => exact ⟨0, Nat.zero_le _, rfl, fun j hj => absurd hj (by omega), rfl⟩
  case round =>
    obtain ⟨k, hk, rfl, HE, rfl⟩ := hrel
    by_cases hkn : k < n
    · have hkI : (k : Int) < n := by omega
      obtain ⟨g, rfl, _, cg, _, _⟩ := ownZ_at HO.out HLN.out hkn
      obtain ⟨ai, hai⟩ : ∃ z, z = gz (begG xs fs) k := ⟨_, rfl⟩
      have hin := begG_in (xs := xs) (fs := fs) (i := k) (by rw [← HLN.out]; exact hkn)
      rw [← hai] at hin
      obtain ⟨a, ha⟩ : ∃ a : Nat, ai = (a : Int) := ⟨ai.toNat, by omega⟩
      have hax : a < xs.length := by omega
      have haI : (a : Int) < m := by have := HM.out.1; omega
      have cg' : wr.cell? ⟨g, k, none⟩ = some (.int .i64 (a : Nat)) := by rw [cg]; show some (Value.int .i64 (gz (begG xs fs) k)) = _; rw [← hai, ha]
      obtain ⟨b, o, rfl, hcells, _⟩ := HL5.out.at hax
      have c3 := hcells.2.2.2.1
      obtain ⟨gr, hgr⟩ : ∃ z, z = (gn xs a).nd.group := ⟨_, rfl⟩
      rw [← hgr] at c3
      have hta : (gz (begG xs fs) k).toNat = a := by rw [← hai, ha]; simp
      have HGR : Hid (gr = (gn xs (gz (begG xs fs) k).toNat).nd.group) := by show _ = _; rw [hta]; exact hgr
      have hwr : IntKind.i64.wrap ((k : Nat) + 1 : Int) = (k : Nat) + 1 := by rw [IntKind.wrap_i64]; omega
      clear cg hai hin ha hcells hgr hta hax
      by_cases hgk : gr = (k : Int) + 1
      · have e1 : (gr != (k : Int) + 1) = false := by simpa using hgk
        have HX := Lib.hid hgk
        clear hgk
        go_wp2
        go_roundw
        case rel =>
          refine ⟨k + 1, by omega, by go_num, fun j hj => ?_, by first | rfl | trivial⟩
          by_cases hjk : j < k
          · exact HE.out j hjk
          · obtain rfl : j = k := by omega
            rw [← HGR.out]; exact HX.out
        case measure => simp [intOf]; omega
      · have e1 : (gr != (k : Int) + 1) = true := by simpa using hgk
        have HX := Lib.hid hgk
        clear hgk
        go_wp2
        go_ret
        refine ⟨?_, HB1.out.trans (HB5.out.mono (HB1.out.size))⟩
        unfold countB
        rw [countOk_bad (i := k) (by rw [← HLN.out]; exact hkn) (by rw [← HGR.out]; exact HX.out)]
        rfl
    · have hkI : (n : Int) ≤ k := by omega
      have HT2 : Hid (countOk xs (begG xs fs) = true) := countOk_of fun i hi => HE.out i (by rw [← HLN.out] at hi; omega)
      by_cases hnn : n = nm
      · have e2 : ((n : Int) == (nm : Nat)) = true := by simp [hnn]
        have HX := Lib.hid hnn
        clear hnn
        go_wp2
        go_ret
        refine ⟨?_, HB1.out.trans (HB5.out.mono (HB1.out.size))⟩
        unfold countB
        rw [HT2.out, show ((begG xs fs).length == nm) = true by rw [← HLN.out, HX.out]; simp]
        rfl
      · have e2 : ((n : Int) == (nm : Nat)) = false := by simp; omega
        have HX := Lib.hid hnn
        clear hnn
        go_wp2
        go_ret
        refine ⟨?_, HB1.out.trans (HB5.out.mono (HB1.out.size))⟩
        unfold countB
        rw [HT2.out, show ((begG xs fs).length == nm) = false by rw [← HLN.out]; simpa using HX.out]
        rfl
end Go.Proofs.YtafiekelcoaadaaGreat
