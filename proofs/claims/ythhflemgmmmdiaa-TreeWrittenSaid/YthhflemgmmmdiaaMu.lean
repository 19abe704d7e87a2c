/- TreeWritten's own walk. -/
import Derived.Test.YthhflemgmmmdiaaMt
namespace Go.Proofs.Ythhflemgmmmdiaa
open Go.RowKit Tnr Tnt

def k5 (L : List Nd) : Nat := (L.filter fun d => d.kind == 5).length
theorem evN_k5 : ∀ (L : List Nd) (k : Nat), (evN [5] k L).length = k5 L
  | [], _ => rfl
  | d :: L, k => by
    have h := evN_k5 L (k + 1)
    unfold k5 at *
    rw [show evN [5] k (d :: L) = if d.kind ∈ [5] then (k, d) :: evN [5] (k + 1) L else evN [5] (k + 1) L from rfl, List.filter_cons]
    by_cases hd : d.kind = 5
    · rw [if_pos (by simp [hd]), if_pos (by simp [hd]), List.length_cons, List.length_cons, h]
    · rw [if_neg (by simp [hd]), if_neg (by simp [hd]), h]
theorem nds_take {xs : List NV} {k : Nat} (h : k < xs.length) : (nds xs).take (k + 1) = (nds xs).take k ++ [(gn xs k).nd] := by
  unfold nds
  rw [← List.map_take, take_gn h, List.map_append, List.map_take]; rfl
theorem k5_snoc (L : List Nd) (d : Nd) : k5 (L ++ [d]) = k5 L + if d.kind = 5 then 1 else 0 := by
  unfold k5
  rw [List.filter_append, List.length_append, List.filter_cons]
  by_cases hd : d.kind = 5 <;> simp [hd]
theorem plainN_snoc (L : List Nd) (d : Nd) : plainN (L ++ [d]) = (plainN L && plainNd d) := by
  unfold plainN; rw [List.all_append]; simp
theorem freeN_snoc (L : List Nd) (d : Nd) : freeN (L ++ [d]) = (freeN L && (d.group == 0)) := by
  unfold freeN; rw [List.all_append]; simp
theorem _root_.Go.RowKit.Below.setCell2 {B : Nat} {a w : World} {b : Nat} (h : Below B a w) (hb : B ≤ b) (u v : Value) : Below B a ((w.setCell ⟨b, 0, none⟩ u).setCell ⟨b, 1, none⟩ v) := (h.setCell (p := ⟨b, 0, none⟩) hb u).setCell (p := ⟨b, 1, none⟩) hb v
theorem k5_le (L : List Nd) : k5 L ≤ L.length := List.length_filter_le _ _
theorem join1n (x : NV) (d : Nd) (b c : Nat) (q : Option Addr) (m cq : Nat) (ys : List NV) (L : List Nd) (pn : Option Addr) (nn cn : Nat) (w : World) {T : TypeId} (hx : NodeIn w x) (hd : x.nd = d) (hs : d.set.length ≤ 1000000) (h : TH w q m cq ys L) (hb : Bx w b T #[.slice q m cq, .slice pn nn cn]) (hf : Few ys) (hl : m ≤ 1000000) :
    Calls Try.prog 11 #[.agg (encN x).toArray, .slice (some ⟨b, 0, none⟩) 1 c] w (JPost (joinT d [L]) w) := by
  have hT : SlT w (some ⟨b, 0, none⟩) [⟨q, cq, pn, nn, cn, ys⟩] := by
    refine ⟨fun t ht => by rw [List.mem_singleton.1 ht]; exact ⟨h.treeIn.nodes, h.treeIn.nil, h.treeIn.le, h.treeIn.max⟩, .inr ⟨b, 0, rfl, fun i hi => ?_⟩⟩
    have : i = 0 := by simpa using hi
    subst this
    refine ⟨?_, hb.cell rfl⟩
    show _ = some (Value.slice q ys.length cq)
    rw [← h.len]
    exact hb.cell rfl
  refine (join_any x (some ⟨b, 0, none⟩) 1 c [⟨q, cq, pn, nn, cn, ys⟩] w hx (by rw [hd]; exact hs) rfl hT (fun t ht => by rw [List.mem_singleton.1 ht]; exact hf) (by omega) (by have := h.len; simp [sizeT]; omega)).mono ?_
  rintro e w' ⟨q', m', cq', ys', hm, rfl, ho, hy, hb'⟩
  rw [hd] at hy
  refine ⟨q', m', cq', ys', rfl, th_own hm ho (hy.trans ?_), hb'⟩
  show joinT d [nds ys] = _
  rw [h.nds]
set_option maxHeartbeats 12800000 in
set_option maxRecDepth 100000 in
theorem treeWritten_any (p : Option Addr) (n c : Nat) (xs : List NV) (pn : Option Addr) (nn cn : Nat) (nm : List ByteArray) (at_ : Int) (w : World) (hn : n = xs.length) (hnI : (n : Int) ≤ 9223372036854775807) (hnil : p = none → c = 0) (hnc : n ≤ c) (hcm : c ≤ 9223372036854775807) (hp : SlN w p xs) (hf : ∀ x ∈ xs, x.nd.kids.length ≤ 9223372036854775807 ∧ x.nd.set.length ≤ 9223372036854775807) (hk : KindsIn xs) (hnn : nn = nm.length) (hnnI : (nn : Int) ≤ 9223372036854775807) (hnc2 : nn ≤ cn) (hX : SlX w pn nm) (hz : ∀ x ∈ nm, x.size ≤ 9223372036854775807) :
    Calls Try.prog 3 #[.agg #[.slice p n c, .slice pn nn cn], .int .i64 at_] w fun e w' => e = .returned (.bool true) ∧ Below w.heap.size w w' := by
  obtain ⟨W1, hW1⟩ : ∃ W, W = w.alloc (.cells #[.slice p n c, .slice pn nn cn] 25) := ⟨_, rfl⟩
  obtain ⟨b0, hb0⟩ : ∃ b, b = w.heap.size := ⟨_, rfl⟩
  have hB1 : Below w.heap.size w W1 := by rw [hW1]; exact bl_alloc _ _
  have hT1 : Bx W1 b0 25 #[.slice p n c, .slice pn nn cn] := by rw [hW1, hb0]; exact Bx.new w _ _
  have HA := Lib.hid (awake_any W1)
  have HW1 := Lib.hid (And.intro hW1 hb0)
  have HT1 := Lib.hid hT1
  have HB1 := Lib.hid hB1
  have HP1 := Lib.hid (And.intro (hp.below hB1) (hX.below hB1))
  have HN := Lib.hid (And.intro hn (And.intro hnI (And.intro hf (And.intro hk (And.intro hnn (And.intro hnnI (And.intro hnc2 hz)))))))
  have HC := Lib.hid (And.intro hnil (And.intro hnc hcm))
  clear hn hnI hnil hnc hcm hp hf hk hnn hnnI hnc2 hX hz hW1 hb0 hB1 hT1
  go_enter Try.func3, Try.ntmps3
  go_wp2_with fail
  rw [← HW1.out.2, show w.alloc (.cells #[.slice p n c, .slice pn nn cn] 25) = W1 from HW1.out.1.symm]
  refine (HA.out).mono ?_
  rintro e w1 ⟨rfl, hb1⟩
  obtain ⟨w2, hw2⟩ : ∃ W, W = w1.alloc (.cells #[.slice p n c, .slice pn nn cn] 25) := ⟨_, rfl⟩
  have hb2 : Below w1.heap.size w1 w2 := by rw [hw2]; exact bl_alloc _ _
  have hX2 : Bx w2 w1.heap.size 25 #[.slice p n c, .slice pn nn cn] := by rw [hw2]; exact Bx.new w1 _ _
  have hb12 : Below W1.heap.size W1 w2 := hb1.trans (hb2.mono hb1.size)
  have hT2 := HT1.out.below hb1
  have cT0 : w1.cell? ⟨b0, 0, none⟩ = some (.slice p n c) := hT2.cell rfl
  have cT1 : w1.cell? ⟨b0, 1, none⟩ = some (.slice pn nn cn) := hT2.cell rfl
  have HG := Lib.hid (great1_any w1.heap.size p n c xs pn nn cn nm w2 (hX2.cell rfl) (hX2.cell rfl) HN.out.1 HN.out.2.1 (HP1.out.1.below hb12) HN.out.2.2.1 HN.out.2.2.2.2.1 HN.out.2.2.2.2.2.1 (HP1.out.2.below hb12) HN.out.2.2.2.2.2.2.2)
  have HW2 := Lib.hid hw2
  have HB12 := Lib.hid hb12
  clear hb1 hb2 hX2 hb12 hT2 hw2
  go_wp2_with fail
  rw [← HW2.out]
  refine (HG.out).mono ?_
  rintro e w3 ⟨⟨g, rfl, hg⟩, hb3⟩
  have HB13 := Lib.hid (HB12.out.trans (hb3.mono HB12.out.size))
  have HGS := Lib.hid hg
  clear hg hb3 cT0 cT1
  cases g with
  | true =>
    go_wp2
    go_ret
    exact ⟨rfl, HB1.out.trans (HB13.out.mono HB1.out.size)⟩
  | false =>
    have hsm := HGS.out (by first | rfl | trivial)
    have hfew : Few xs := fun x hx => by have := hsm.2.2 x hx; omega
    have hT3 := HT1.out.below HB13.out
    have cT0 : w3.cell? ⟨b0, 0, none⟩ = some (.slice p n c) := hT3.cell rfl
    have cT1 : w3.cell? ⟨b0, 1, none⟩ = some (.slice pn nn cn) := hT3.cell rfl
    have HR := Lib.hid (rightT_any p n c xs pn nn cn nm w3 HN.out.1 (by have := hsm.2.1; omega) (HP1.out.1.below HB13.out) hfew HN.out.2.2.2.1 HN.out.2.2.2.2.1 HN.out.2.2.2.2.2.2.1 (HP1.out.2.below HB13.out))
    obtain ⟨rb, hrb⟩ : ∃ b : Bool, b = rightN (nds xs) nm := ⟨_, rfl⟩
    rw [rightT_nds, ← hrb] at HR
    have HRB : Hid (rightN (nds xs) nm = rb) := hrb.symm
    have HSM := Lib.hid (And.intro hsm hfew)
    clear hrb hsm hfew hT3
    go_wp2_with fail
    refine (HR.out).mono ?_
    rintro e w4 ⟨rfl, hb4⟩
    have HB14 := Lib.hid (HB13.out.trans (hb4.mono HB13.out.size))
    clear hb4 cT0 cT1
    cases rb with
    | false =>
      go_wp2
      go_ret
      exact ⟨rfl, HB1.out.trans (HB14.out.mono HB1.out.size)⟩
    | true =>
      have hT4 := HT1.out.below HB14.out
      have cT0 : w4.cell? ⟨b0, 0, none⟩ = some (.slice p n c) := hT4.cell rfl
      have hnI : (n : Int) ≤ 3000 := by have := HSM.out.1.2.1; omega
      have HT4 := Lib.hid hT4
      have HP4 := Lib.hid (HP1.out.1.below HB14.out)
      clear hT4
      go_wp2
      go_loopw [5, 6, 7] (fun pv gv iv wr => ∃ (k g : Nat) (pb : Bool), k ≤ n ∧ iv = .int .i64 (k : Nat) ∧ gv = .int .i64 (g : Nat) ∧ pv = .bool pb ∧ Hid (pb = plainN ((nds xs).take k) ∧ g = k5 ((nds xs).take k)) ∧ Hid (Below w4.heap.size w4 wr)) (fun _ _ iv _ => n - (intOf iv).toNat)
      case atStart => exact ⟨0, 0, true, Nat.zero_le _, rfl, rfl, rfl, ⟨rfl, rfl⟩, Below.refl _ _⟩
      case round =>
        obtain ⟨k, g, pb, hk, rfl, rfl, rfl, HE, HW⟩ := hrel
        rename World => wr
        have hTr := HT4.out.below HW.out
        have cT0 : wr.cell? ⟨b0, 0, none⟩ = some (.slice p n c) := hTr.cell rfl
        have cT1 : wr.cell? ⟨b0, 1, none⟩ = some (.slice pn nn cn) := hTr.cell rfl
        by_cases hkn : k < n
        · have hkI : (k : Int) < n := by omega
          have hkx : k < xs.length := by have := HN.out.1; omega
          obtain ⟨b, o, rfl, hcells, _⟩ := (HP4.out.below HW.out).at hkx
          have HTK := Lib.hid (nds_take hkx)
          obtain ⟨x, hx⟩ : ∃ x, x = gn xs k := ⟨_, rfl⟩
          rw [← hx] at hcells HTK
          obtain ⟨ls, lk, hls, hlk, hlit⟩ := node_lit2 x
          obtain ⟨c0, c1, c2, c3, c4, c5, c6, c7, c8⟩ := hcells
          rw [← hls] at c1
          rw [← hlk] at c2
          obtain ⟨kd, hkd⟩ : ∃ z, z = x.nd.kind := ⟨_, rfl⟩
          obtain ⟨mn, hmn⟩ : ∃ z, z = x.nd.mn := ⟨_, rfl⟩
          obtain ⟨mx, hmx⟩ : ∃ z, z = x.nd.mx := ⟨_, rfl⟩
          obtain ⟨md, hmd⟩ : ∃ z, z = x.nd.mode := ⟨_, rfl⟩
          rw [← hkd] at c0
          rw [← hmn] at c4
          rw [← hmx] at c5
          rw [← hmd] at c6
          have HPL : Hid (plainNd x.nd = (!(kd == 7) || (mn == 0 && (mx == -1 && !(md == 3))))) := by show _ = _; unfold plainNd; rw [← hkd, ← hmn, ← hmx, ← hmd]
          have HNX : Hid (∀ pb' g' : _, pb' = (pb && plainNd x.nd) → g' = g + (if kd = 5 then 1 else 0) → pb' = plainN ((nds xs).take (k + 1)) ∧ g' = k5 ((nds xs).take (k + 1))) := fun pb' g' h1 h2 => by
            rw [HTK.out, plainN_snoc, k5_snoc, ← HE.out.1, ← HE.out.2, ← hkd]; exact ⟨h1, h2⟩
          have hg3 : g ≤ 3000 := by rw [HE.out.2]; have := k5_le ((nds xs).take k); rw [List.length_take] at this; omega
          have hwg : IntKind.i64.wrap ((g : Nat) + 1 : Int) = (g : Nat) + 1 := by rw [IntKind.wrap_i64]; omega
          have hwk : IntKind.i64.wrap ((k : Nat) + 1 : Int) = (k : Nat) + 1 := by rw [IntKind.wrap_i64]; omega
          obtain ⟨wa, hwa⟩ : ∃ W, W = wr.alloc (.cells #[.int .u8 kd, .slice x.ps ls x.cs, .slice x.pk lk x.ck, .int .i64 x.nd.group, .int .i64 mn, .int .i64 mx, .int .u8 md, .int .u8 x.nd.spot, .bool x.nd.neg] 35) := ⟨_, rfl⟩
          have HBA : Hid (Below w4.heap.size w4 (wr.alloc (.cells #[.int .u8 kd, .slice x.ps ls x.cs, .slice x.pk lk x.ck, .int .i64 x.nd.group, .int .i64 mn, .int .i64 mx, .int .u8 md, .int .u8 x.nd.spot, .bool x.nd.neg] 35))) := HW.out.trans ((bl_alloc _ _).mono HW.out.size)
          clear hx hls hlk hlit hkd hmn hmx hmd hkx hTr hwa
          by_cases hk5 : kd = 5
          · have e5 : (kd == 5) = true := by simpa using hk5
            have e7 : (kd == 7) = false := by rw [hk5]; rfl
            have n7 : (kd != 7) = true := by rw [hk5]; rfl
            have k5e := Lib.hid hk5
            cases pb with
            | false =>
              have HX1 : Hid (false = plainN ((nds xs).take (k + 1)) ∧ g + 1 = k5 ((nds xs).take (k + 1))) := HNX.out false (g + 1) (by rfl) (by rw [if_pos hk5])
              clear HPL HNX hk5
              go_wp2
              go_roundw
              case rel => exact ⟨k + 1, g + 1, false, by omega, by go_num, by first | rfl | go_num, rfl, HX1.out, HBA.out⟩
              case measure => simp [intOf]; omega
            | true =>
              have HX1 : Hid (true = plainN ((nds xs).take (k + 1)) ∧ g + 1 = k5 ((nds xs).take (k + 1))) := HNX.out true (g + 1) (by rw [HPL.out, hk5]; rfl) (by rw [if_pos hk5])
              clear HPL HNX hk5
              go_wp2
              go_roundw
              case rel => exact ⟨k + 1, g + 1, true, by omega, by go_num, by first | rfl | go_num, rfl, HX1.out, HBA.out⟩
              case measure => simp [intOf]; omega
          · have e5 : (kd == 5) = false := by simpa using hk5
            cases pb with
            | false =>
              have HX1 : Hid (false = plainN ((nds xs).take (k + 1)) ∧ g = k5 ((nds xs).take (k + 1))) := HNX.out false (g) (by rfl) (by rw [if_neg hk5]; rfl)
              clear HPL HNX hk5
              go_wp2
              go_roundw
              case rel => exact ⟨k + 1, g, false, by omega, by go_num, by first | rfl | go_num, rfl, HX1.out, HBA.out⟩
              case measure => simp [intOf]; omega
            | true =>
              by_cases hk7 : kd = 7
              · have n7 : (kd != 7) = false := by rw [hk7]; rfl
                by_cases hmn : mn = 0
                · have em : (mn == 0) = true := by simpa using hmn
                  by_cases hmx : mx = -1
                  · have ex : (mx == -1) = true := by simpa using hmx
                    by_cases hmd : md = 3
                    · have ed : (md != 3) = false := by rw [hmd]; rfl
                      have HX1 : Hid (false = plainN ((nds xs).take (k + 1)) ∧ g = k5 ((nds xs).take (k + 1))) := HNX.out false (g) (by rw [HPL.out, hk7, em, ex, hmd]; rfl) (by rw [if_neg hk5]; rfl)
                      clear HPL HNX hk5 hk7 hmn hmx hmd
                      go_wp2
                      go_roundw
                      case rel => exact ⟨k + 1, g, false, by omega, by go_num, by first | rfl | go_num, rfl, HX1.out, HBA.out⟩
                      case measure => simp [intOf]; omega
                    · have ed : (md != 3) = true := by simpa using hmd
                      have HX1 : Hid (true = plainN ((nds xs).take (k + 1)) ∧ g = k5 ((nds xs).take (k + 1))) := HNX.out true (g) (by rw [HPL.out, hk7, em, ex, show (md == 3) = false by simpa using hmd]; rfl) (by rw [if_neg hk5]; rfl)
                      clear HPL HNX hk5 hk7 hmn hmx hmd
                      go_wp2
                      go_roundw
                      case rel => exact ⟨k + 1, g, true, by omega, by go_num, by first | rfl | go_num, rfl, HX1.out, HBA.out⟩
                      case measure => simp [intOf]; omega
                  · have ex : (mx == -1) = false := by simpa using hmx
                    have HX1 : Hid (false = plainN ((nds xs).take (k + 1)) ∧ g = k5 ((nds xs).take (k + 1))) := HNX.out false (g) (by rw [HPL.out, hk7, em, ex]; rfl) (by rw [if_neg hk5]; rfl)
                    clear HPL HNX hk5 hk7 hmn hmx
                    go_wp2
                    go_roundw
                    case rel => exact ⟨k + 1, g, false, by omega, by go_num, by first | rfl | go_num, rfl, HX1.out, HBA.out⟩
                    case measure => simp [intOf]; omega
                · have em : (mn == 0) = false := by simpa using hmn
                  have HX1 : Hid (false = plainN ((nds xs).take (k + 1)) ∧ g = k5 ((nds xs).take (k + 1))) := HNX.out false (g) (by rw [HPL.out, hk7, em]; rfl) (by rw [if_neg hk5]; rfl)
                  clear HPL HNX hk5 hk7 hmn
                  go_wp2
                  go_roundw
                  case rel => exact ⟨k + 1, g, false, by omega, by go_num, by first | rfl | go_num, rfl, HX1.out, HBA.out⟩
                  case measure => simp [intOf]; omega
              · have n7 : (kd != 7) = true := by simpa using hk7
                have HX1 : Hid (true = plainN ((nds xs).take (k + 1)) ∧ g = k5 ((nds xs).take (k + 1))) := HNX.out true (g) (by rw [HPL.out, show (kd == 7) = false by simpa using hk7]; rfl) (by rw [if_neg hk5]; rfl)
                clear HPL HNX hk5 hk7
                go_wp2
                go_roundw
                case rel => exact ⟨k + 1, g, true, by omega, by go_num, by first | rfl | go_num, rfl, HX1.out, HBA.out⟩
                case measure => simp [intOf]; omega
        · have hkI : (n : Int) ≤ k := by omega
          have hkn2 : k = n := by omega
          clear hkn2
          have HEE : Hid (pb = plainN (nds xs) ∧ g = k5 (nds xs)) := by
            have h := HE.out
            rw [List.take_of_length_le (by rw [nds_length, ← HN.out.1]; omega)] at h
            exact h
          have hgn : g = nn := by rw [HEE.out.2, ← evN_k5, HN.out.2.2.2.2.1]; exact (right_groups HRB.out).1
          subst hgn
          obtain ⟨mnv, hmnv⟩ : ∃ z : Int, z = if g = 0 then 0 else 1 := ⟨_, rfl⟩
          have HGR := Lib.hid (groups_any p n c xs pn g cn wr HN.out.1 (by have := HSM.out.1.2.1; omega) (HP4.out.below HW.out))
          rw [grL_nds, (right_groups HRB.out).2.1, (right_groups HRB.out).2.2, ← HN.out.2.2.2.2.1, ← hmnv] at HGR
          have HMV := Lib.hid hmnv
          have HPS : Hid (spreadTN (nds xs) nm = pb) := (right_spread HRB.out).trans HEE.out.1.symm
          clear hmnv
          go_wp2_with fail
          refine (HGR.out).mono ?_
          rintro e w5 ⟨rfl, hb5⟩
          have HB45 := Lib.hid (HW.out.trans (hb5.mono HW.out.size))
          have hT5 := HT4.out.below HB45.out
          have cT0 : w5.cell? ⟨b0, 0, none⟩ = some (.slice p n c) := hT5.cell rfl
          have cT1 : w5.cell? ⟨b0, 1, none⟩ = some (.slice pn g cn) := hT5.cell rfl
          have HSP := Lib.hid (spreadT_any p n c xs pn g cn nm w5 HN.out.1 (by have := HSM.out.1.2.1; omega) (HP4.out.below HB45.out) HSM.out.2 HN.out.2.2.2.1 HN.out.2.2.2.2.1 HN.out.2.2.2.2.2.2.1 (HP1.out.2.below (HB14.out.trans (HB45.out.mono HB14.out.size))))
          rw [spreadT_nds, HPS.out] at HSP
          clear hb5 hT5
          go_wp2_with fail
          refine (HSP.out).mono ?_
          rintro e w6 ⟨rfl, hb6⟩
          have HB46 := Lib.hid (HB45.out.trans (hb6.mono HB45.out.size))
          have hT6 := HT4.out.below HB46.out
          have cT0 : w6.cell? ⟨b0, 0, none⟩ = some (.slice p n c) := hT6.cell rfl
          have cT1 : w6.cell? ⟨b0, 1, none⟩ = some (.slice pn g cn) := hT6.cell rfl
          clear hb6 hT6 HSP HGR
          obtain ⟨fb, hq2⟩ : ∃ b : Bool, decide ((g : Int) > 0) = b := ⟨_, rfl⟩
          have hq3 : decide (0 < (g : Int)) = fb := hq2
          have hq4 : decide (0 < g) = fb := by rw [← hq2, Bool.eq_iff_iff, decide_eq_true_eq, decide_eq_true_eq]; omega
          have hq5 : (!fb == fb) = false := by cases fb <;> rfl
          have hq1 : (mnv == 1) = fb := by
            rw [← hq2, HMV.out]
            by_cases h0 : g = 0
            · rw [if_pos h0, h0]; rfl
            · rw [if_neg h0, decide_eq_true (by omega)]; rfl
          go_wp2_with fail
          go_cut [11] from 91 to 97 (fun uv wx => ∃ bu q m cq ys kk, uv = .pointer (some ⟨bu, 0, none⟩) ∧ Hid (Bx wx bu 25 #[.slice q m cq, .slice none 0 0]) ∧ Hid (TH wx q m cq ys (ofT (nds xs) ((kk : Nat) : Int))) ∧ Hid (kk < n) ∧ Hid (Below w4.heap.size w4 wx))
          case first =>
            have HBZ : Hid (Below w4.heap.size w4 w6.drew) := HB46.out.drew
            have HN1 : Hid (0 < n) := by
              obtain ⟨l, ho, _⟩ := right_parts HRB.out
              have := (ordT_len ho).1
              rw [nds_length, ← HN.out.1] at this
              exact this
            have HOF : Hid (∀ (V : World) (x : Int), Below w6.drew.heap.size w6.drew V → Calls Try.prog 9 #[.agg #[.slice p n c, .slice pn g cn], .int .i64 x] V (TreePost V (ofT (nds xs) x))) := fun V x hV =>
              of_any p n c xs (.slice pn g cn) x V HN.out.1 (by have := HSM.out.1.2.1; omega) HC.out.2.1 HC.out.2.2 (HP4.out.below (HBZ.out.trans (hV.mono HBZ.out.size))) HSM.out.2
            refine wp_region_L (S := fun (V : World) => V.cell? ⟨b0, 0, none⟩ = some (.slice p n c) ∧ V.cell? ⟨b0, 1, none⟩ = some (.slice pn g cn)) (S2 := fun (V : World) => V.cell? ⟨b0, 0, none⟩ = some (.slice p n c) ∧ V.cell? ⟨b0, 1, none⟩ = some (.slice pn g cn)) 8 8 (by kernel_rfl) ?_
            obtain ⟨WZ, hWZ⟩ : ∃ W, W = w6.drew := ⟨_, rfl⟩
            have hS : (fun (V : World) => V.cell? ⟨b0, 0, none⟩ = some (.slice p n c) ∧ V.cell? ⟨b0, 1, none⟩ = some (.slice pn g cn)) w6.drew := ⟨cT0, cT1⟩
            rw [← hWZ] at HBZ HOF hS ⊢
            have hS2 := hS
            have HBWZ : Hid (Below WZ.heap.size WZ WZ) := Below.refl _ _
            clear cT0 cT1 hWZ
            refine anyL_take1 (i := 0) (oi := { dst := some 91, op := Op.load 25 (Operand.tmp 2), type := 25, pos := "outright.go:66", after := #[], guard := none }) (u := ?_) rfl (by kernel_rfl) (fun _ _ _ h => h) (Or.inl ⟨by kernel_rfl, ?_⟩) ⟨fun _ => hS, fun _ => hS2⟩ ?_
            rotate_left
            focus (intro w hSw; (try dsimp only at hSw); go_simp; with_reducible rfl)
            try simp only [Act.put, List.setIfInBounds_toArray, List.set_cons_zero, List.set_cons_succ]
            refine anyL_take1 (i := 1) (oi := { dst := some 92, op := Op.move (Operand.tmp 1), type := 3, pos := "outright.go:66", after := #[], guard := none }) (u := ?_) rfl (by kernel_rfl) (fun _ _ _ h => h) (Or.inl ⟨by kernel_rfl, ?_⟩) ⟨fun _ => hS, fun _ => hS2⟩ ?_
            rotate_left
            focus (intro w hSw; (try dsimp only at hSw); go_simp; with_reducible rfl)
            try simp only [Act.put, List.setIfInBounds_toArray, List.set_cons_zero, List.set_cons_succ]
            refine anyL_take1 (i := 2) (oi := { dst := some 93, op := Op.fieldAddr 25 (Operand.tmp 2) 0, type := 0, pos := "outright.go:66", after := #[], guard := none }) (u := ?_) rfl (by kernel_rfl) (fun _ _ _ h => h) (Or.inl ⟨by kernel_rfl, ?_⟩) ⟨fun _ => hS, fun _ => hS2⟩ ?_
            rotate_left
            focus (intro w hSw; (try dsimp only at hSw); go_simp; with_reducible rfl)
            try simp only [Act.put, List.setIfInBounds_toArray, List.set_cons_zero, List.set_cons_succ]
            refine anyL_take1 (i := 3) (oi := { dst := some 94, op := Op.load 22 (Operand.tmp 93), type := 22, pos := "outright.go:66", after := #[{ on := 2, ground := Ground.data }], guard := none }) (u := ?_) rfl (by kernel_rfl) (fun _ _ _ h => h) (Or.inl ⟨by kernel_rfl, ?_⟩) ⟨fun _ => hS, fun _ => hS2⟩ ?_
            rotate_left
            focus (intro w hSw; (try dsimp only at hSw); go_simp; with_reducible rfl)
            try simp only [Act.put, List.setIfInBounds_toArray, List.set_cons_zero, List.set_cons_succ]
            refine anyL_take1 (i := 4) (oi := { dst := some 95, op := Op.call { callee := Callee.builtin Builtin.len, args := #[Operand.tmp 94], argTypes := #[22] }, type := 3, pos := "outright.go:66", after := #[{ on := 3, ground := Ground.data }], guard := none }) (u := ?_) rfl (by kernel_rfl) (fun _ _ _ h => h) (Or.inl ⟨by kernel_rfl, ?_⟩) ⟨fun _ => hS, fun _ => hS2⟩ ?_
            rotate_left
            focus (intro w hSw; (try dsimp only at hSw); go_simp; with_reducible rfl)
            try simp only [Act.put, List.setIfInBounds_toArray, List.set_cons_zero, List.set_cons_succ]
            refine anyL_two (i := 5) (k := 7) (o := { dst := some 96, op := Op.call { callee := Callee.value (Operand.func 10), args := #[Operand.tmp 92, Operand.tmp 95], argTypes := #[3, 3] }, type := 3, pos := "outright.go:66", after := #[{ on := 1, ground := Ground.data }, { on := 4, ground := Ground.data }], guard := none }) (o' := { dst := some 11, op := Op.alloc 25, type := 0, pos := "outright.go:66", after := #[], guard := none }) (by kernel_rfl) rfl rfl (fun K hK => ?_) (fun K hK => ?_)
            · skip
              go_simp
              refine (pick_any at_ n WZ (by have := HN1.out; omega) (by omega)).mono ?_
              rintro e w' ⟨kk, rfl, hkk, rfl⟩
              have HKK := Lib.hid hkk
              clear hkk
              refine hK.out _ _ ⟨fun _ => hS, fun _ => hS⟩ ?_
              clear hK K
              try simp only [Act.put, List.setIfInBounds_toArray, List.set_cons_zero, List.set_cons_succ]
              refine anyL_two (i := 6) (k := 7) (o := { dst := some 97, op := Op.call { callee := Callee.value (Operand.func 9), args := #[Operand.tmp 91, Operand.tmp 96], argTypes := #[25, 3] }, type := 25, pos := "outright.go:66", after := #[{ on := 0, ground := Ground.data }, { on := 5, ground := Ground.data }, { on := 5, ground := Ground.chain }], guard := none }) (o' := { dst := some 11, op := Op.alloc 25, type := 0, pos := "outright.go:66", after := #[], guard := none }) (by kernel_rfl) rfl rfl (fun K hK => ?_) (fun K hK => ?_)
              · skip
                go_simp
                refine (HOF.out WZ (kk : Nat) HBWZ.out).mono ?_
                rintro e v1 ⟨q, m, cq, ys, hm, rfl, ho, hy, hbv1⟩
                have HTH := Lib.hid (th_own hm ho hy)
                clear hm ho hy
                have HBv1 := Lib.hid (HBWZ.out.trans (hbv1.mono HBWZ.out.size))
                have HCv1 := Lib.hid hbv1
                have hSv1 : (fun (V : World) => V.cell? ⟨b0, 0, none⟩ = some (.slice p n c) ∧ V.cell? ⟨b0, 1, none⟩ = some (.slice pn g cn)) v1 := ⟨cell_below hS.1 hbv1, cell_below hS.2 hbv1⟩
                refine hK.out _ _ ⟨fun _ => hSv1, fun _ => hSv1⟩ ?_
                clear hK K hS hS2 hbv1
                have hS := hSv1
                have hS2 := hSv1
                clear hSv1
                try simp only [Act.put, List.setIfInBounds_toArray, List.set_cons_zero, List.set_cons_succ]
                refine anyL_one (i := 7) (o := { dst := some 11, op := Op.alloc 25, type := 0, pos := "outright.go:66", after := #[], guard := none }) (by kernel_rfl) rfl (fun K hK => ?_)
                go_simp
                obtain ⟨v2, hwv2⟩ : ∃ W, W = v1.alloc (.cells #[.slice none 0 0, .slice none 0 0] 25) := ⟨_, rfl⟩
                rw [← hwv2]
                have hbv2 : Below v1.heap.size v1 v2 := by rw [hwv2]; exact bl_alloc _ _
                have HXB : Hid (Bx v2 v1.heap.size 25 #[.slice none 0 0, .slice none 0 0]) := by show Bx _ _ _ _; rw [hwv2]; exact Bx.new _ _ _
                obtain ⟨bu, hbu⟩ : ∃ b, b = v1.heap.size := ⟨_, rfl⟩
                have HZB : Hid (WZ.heap.size ≤ bu) := by show _ ≤ _; rw [hbu]; exact HBv1.out.size
                rw [← hbu] at HXB ⊢
                clear hwv2 hbu
                have HBv2 := Lib.hid (HBv1.out.trans (hbv2.mono HBv1.out.size))
                have HCv2 := Lib.hid hbv2
                have hSv2 : (fun (V : World) => V.cell? ⟨b0, 0, none⟩ = some (.slice p n c) ∧ V.cell? ⟨b0, 1, none⟩ = some (.slice pn g cn)) v2 := ⟨cell_below hS.1 hbv2, cell_below hS.2 hbv2⟩
                refine hK.out _ _ ⟨fun _ => hSv2, fun _ => hSv2⟩ ?_
                clear hK K hS hS2 hbv2
                have hS := hSv2
                have hS2 := hSv2
                clear hSv2
                try simp only [Act.put, List.setIfInBounds_toArray, List.set_cons_zero, List.set_cons_succ]
                have hxb := HXB.out
                have hth := HTH.out.below HCv2.out
                have x0 := hxb.cell (i := 0) rfl
                have x1 := hxb.cell (i := 1) rfl
                have f0 := hxb.free 0
                have f1 := hxb.free 1
                have HXE := Lib.hid hxb
                have HTE := Lib.hid hth
                clear hxb hth
                refine anyL_one (i := 8) (o := { dst := none, op := Op.store 25 (Operand.tmp 11) (Operand.tmp 97), type := 0, pos := "outright.go:66", after := #[{ on := 7, ground := Ground.data }, { on := 6, ground := Ground.data }, { on := 6, ground := Ground.chain }, { on := 0, ground := Ground.phase }, { on := 1, ground := Ground.phase }, { on := 2, ground := Ground.phase }, { on := 3, ground := Ground.phase }, { on := 4, ground := Ground.phase }, { on := 5, ground := Ground.phase }, { on := 6, ground := Ground.phase }, { on := 7, ground := Ground.phase }], guard := none }) (by kernel_rfl) rfl (fun K hK => ?_)
                go_simp
                refine hK.out _ _ ⟨fun h => absurd h (by decide), fun h => absurd h (by decide)⟩ ?_
                clear hK K hS hS2 x0 x1 f0 f1
                try simp only [Act.put, List.setIfInBounds_toArray, List.set_cons_zero, List.set_cons_succ]
                refine anyL_done (by kernel_rfl) (show onlyN _ .normal _ _ from ?_) _
                dsimp only [onlyN]
                go_wp2_with fail
                go_meet
                refine ⟨bu, q, m, cq, ys, kk, rfl, ?_, ?_, HKK.out, ?_⟩
                · exact (HXE.out.set 0 (.slice q m cq)).set 1 (.slice none 0 0)
                · exact ⟨HTE.out.len, slN_off (slN_off HTE.out.nodes HXE.out (two_slices _ _ _ _ _ _)) (HXE.out.set 0 (.slice q m cq)) (two_slices _ _ _ _ _ _), HTE.out.nil, HTE.out.le, HTE.out.max, HTE.out.nds⟩
                · exact (HBZ.out.trans (HBv2.out.mono HBZ.out.size)).setCell2 (Nat.le_trans HBZ.out.size HZB.out) _ _
              · skip
                go_simp
                obtain ⟨v1, hwv1⟩ : ∃ W, W = WZ.alloc (.cells #[.slice none 0 0, .slice none 0 0] 25) := ⟨_, rfl⟩
                rw [← hwv1]
                have hbv1 : Below WZ.heap.size WZ v1 := by rw [hwv1]; exact bl_alloc _ _
                have HXB : Hid (Bx v1 WZ.heap.size 25 #[.slice none 0 0, .slice none 0 0]) := by show Bx _ _ _ _; rw [hwv1]; exact Bx.new _ _ _
                obtain ⟨bu, hbu⟩ : ∃ b, b = WZ.heap.size := ⟨_, rfl⟩
                have HZB : Hid (WZ.heap.size ≤ bu) := by show _ ≤ _; rw [hbu]; exact HBWZ.out.size
                rw [← hbu] at HXB ⊢
                clear hwv1 hbu
                have HBv1 := Lib.hid (HBWZ.out.trans (hbv1.mono HBWZ.out.size))
                have HCv1 := Lib.hid hbv1
                have hSv1 : (fun (V : World) => V.cell? ⟨b0, 0, none⟩ = some (.slice p n c) ∧ V.cell? ⟨b0, 1, none⟩ = some (.slice pn g cn)) v1 := ⟨cell_below hS.1 hbv1, cell_below hS.2 hbv1⟩
                refine hK.out _ _ ⟨fun _ => hSv1, fun _ => hSv1⟩ ?_
                clear hK K hS hS2 hbv1
                have hS := hSv1
                have hS2 := hSv1
                clear hSv1
                try simp only [Act.put, List.setIfInBounds_toArray, List.set_cons_zero, List.set_cons_succ]
                refine anyL_one (i := 6) (o := { dst := some 97, op := Op.call { callee := Callee.value (Operand.func 9), args := #[Operand.tmp 91, Operand.tmp 96], argTypes := #[25, 3] }, type := 25, pos := "outright.go:66", after := #[{ on := 0, ground := Ground.data }, { on := 5, ground := Ground.data }, { on := 5, ground := Ground.chain }], guard := none }) (by kernel_rfl) rfl (fun K hK => ?_)
                go_simp
                refine (HOF.out v1 (kk : Nat) HBv1.out).mono ?_
                rintro e v2 ⟨q, m, cq, ys, hm, rfl, ho, hy, hbv2⟩
                have HTH := Lib.hid (th_own hm ho hy)
                clear hm ho hy
                have HBv2 := Lib.hid (HBv1.out.trans (hbv2.mono HBv1.out.size))
                have HCv2 := Lib.hid hbv2
                have hSv2 : (fun (V : World) => V.cell? ⟨b0, 0, none⟩ = some (.slice p n c) ∧ V.cell? ⟨b0, 1, none⟩ = some (.slice pn g cn)) v2 := ⟨cell_below hS.1 hbv2, cell_below hS.2 hbv2⟩
                refine hK.out _ _ ⟨fun _ => hSv2, fun _ => hSv2⟩ ?_
                clear hK K hS hS2 hbv2
                have hS := hSv2
                have hS2 := hSv2
                clear hSv2
                try simp only [Act.put, List.setIfInBounds_toArray, List.set_cons_zero, List.set_cons_succ]
                have hxb := HXB.out.below HCv2.out
                have hth := HTH.out
                have x0 := hxb.cell (i := 0) rfl
                have x1 := hxb.cell (i := 1) rfl
                have f0 := hxb.free 0
                have f1 := hxb.free 1
                have HXE := Lib.hid hxb
                have HTE := Lib.hid hth
                clear hxb hth
                refine anyL_one (i := 8) (o := { dst := none, op := Op.store 25 (Operand.tmp 11) (Operand.tmp 97), type := 0, pos := "outright.go:66", after := #[{ on := 7, ground := Ground.data }, { on := 6, ground := Ground.data }, { on := 6, ground := Ground.chain }, { on := 0, ground := Ground.phase }, { on := 1, ground := Ground.phase }, { on := 2, ground := Ground.phase }, { on := 3, ground := Ground.phase }, { on := 4, ground := Ground.phase }, { on := 5, ground := Ground.phase }, { on := 6, ground := Ground.phase }, { on := 7, ground := Ground.phase }], guard := none }) (by kernel_rfl) rfl (fun K hK => ?_)
                go_simp
                refine hK.out _ _ ⟨fun h => absurd h (by decide), fun h => absurd h (by decide)⟩ ?_
                clear hK K hS hS2 x0 x1 f0 f1
                try simp only [Act.put, List.setIfInBounds_toArray, List.set_cons_zero, List.set_cons_succ]
                refine anyL_done (by kernel_rfl) (show onlyN _ .normal _ _ from ?_) _
                dsimp only [onlyN]
                go_wp2_with fail
                go_meet
                refine ⟨bu, q, m, cq, ys, kk, rfl, ?_, ?_, HKK.out, ?_⟩
                · exact (HXE.out.set 0 (.slice q m cq)).set 1 (.slice none 0 0)
                · exact ⟨HTE.out.len, slN_off (slN_off HTE.out.nodes HXE.out (two_slices _ _ _ _ _ _)) (HXE.out.set 0 (.slice q m cq)) (two_slices _ _ _ _ _ _), HTE.out.nil, HTE.out.le, HTE.out.max, HTE.out.nds⟩
                · exact (HBZ.out.trans (HBv2.out.mono HBZ.out.size)).setCell2 (Nat.le_trans HBZ.out.size HZB.out) _ _
            · skip
              go_simp
              obtain ⟨v1, hwv1⟩ : ∃ W, W = WZ.alloc (.cells #[.slice none 0 0, .slice none 0 0] 25) := ⟨_, rfl⟩
              rw [← hwv1]
              have hbv1 : Below WZ.heap.size WZ v1 := by rw [hwv1]; exact bl_alloc _ _
              have HXB : Hid (Bx v1 WZ.heap.size 25 #[.slice none 0 0, .slice none 0 0]) := by show Bx _ _ _ _; rw [hwv1]; exact Bx.new _ _ _
              obtain ⟨bu, hbu⟩ : ∃ b, b = WZ.heap.size := ⟨_, rfl⟩
              have HZB : Hid (WZ.heap.size ≤ bu) := by show _ ≤ _; rw [hbu]; exact HBWZ.out.size
              rw [← hbu] at HXB ⊢
              clear hwv1 hbu
              have HBv1 := Lib.hid (HBWZ.out.trans (hbv1.mono HBWZ.out.size))
              have HCv1 := Lib.hid hbv1
              have hSv1 : (fun (V : World) => V.cell? ⟨b0, 0, none⟩ = some (.slice p n c) ∧ V.cell? ⟨b0, 1, none⟩ = some (.slice pn g cn)) v1 := ⟨cell_below hS.1 hbv1, cell_below hS.2 hbv1⟩
              refine hK.out _ _ ⟨fun _ => hSv1, fun _ => hSv1⟩ ?_
              clear hK K hS hS2 hbv1
              have hS := hSv1
              have hS2 := hSv1
              clear hSv1
              try simp only [Act.put, List.setIfInBounds_toArray, List.set_cons_zero, List.set_cons_succ]
              refine anyL_one (i := 5) (o := { dst := some 96, op := Op.call { callee := Callee.value (Operand.func 10), args := #[Operand.tmp 92, Operand.tmp 95], argTypes := #[3, 3] }, type := 3, pos := "outright.go:66", after := #[{ on := 1, ground := Ground.data }, { on := 4, ground := Ground.data }], guard := none }) (by kernel_rfl) rfl (fun K hK => ?_)
              go_simp
              refine (pick_any at_ n v1 (by have := HN1.out; omega) (by omega)).mono ?_
              rintro e w' ⟨kk, rfl, hkk, rfl⟩
              have HKK := Lib.hid hkk
              clear hkk
              refine hK.out _ _ ⟨fun _ => hS, fun _ => hS⟩ ?_
              clear hK K
              try simp only [Act.put, List.setIfInBounds_toArray, List.set_cons_zero, List.set_cons_succ]
              refine anyL_one (i := 6) (o := { dst := some 97, op := Op.call { callee := Callee.value (Operand.func 9), args := #[Operand.tmp 91, Operand.tmp 96], argTypes := #[25, 3] }, type := 25, pos := "outright.go:66", after := #[{ on := 0, ground := Ground.data }, { on := 5, ground := Ground.data }, { on := 5, ground := Ground.chain }], guard := none }) (by kernel_rfl) rfl (fun K hK => ?_)
              go_simp
              refine (HOF.out v1 (kk : Nat) HBv1.out).mono ?_
              rintro e v2 ⟨q, m, cq, ys, hm, rfl, ho, hy, hbv2⟩
              have HTH := Lib.hid (th_own hm ho hy)
              clear hm ho hy
              have HBv2 := Lib.hid (HBv1.out.trans (hbv2.mono HBv1.out.size))
              have HCv2 := Lib.hid hbv2
              have hSv2 : (fun (V : World) => V.cell? ⟨b0, 0, none⟩ = some (.slice p n c) ∧ V.cell? ⟨b0, 1, none⟩ = some (.slice pn g cn)) v2 := ⟨cell_below hS.1 hbv2, cell_below hS.2 hbv2⟩
              refine hK.out _ _ ⟨fun _ => hSv2, fun _ => hSv2⟩ ?_
              clear hK K hS hS2 hbv2
              have hS := hSv2
              have hS2 := hSv2
              clear hSv2
              try simp only [Act.put, List.setIfInBounds_toArray, List.set_cons_zero, List.set_cons_succ]
              have hxb := HXB.out.below HCv2.out
              have hth := HTH.out
              have x0 := hxb.cell (i := 0) rfl
              have x1 := hxb.cell (i := 1) rfl
              have f0 := hxb.free 0
              have f1 := hxb.free 1
              have HXE := Lib.hid hxb
              have HTE := Lib.hid hth
              clear hxb hth
              refine anyL_one (i := 8) (o := { dst := none, op := Op.store 25 (Operand.tmp 11) (Operand.tmp 97), type := 0, pos := "outright.go:66", after := #[{ on := 7, ground := Ground.data }, { on := 6, ground := Ground.data }, { on := 6, ground := Ground.chain }, { on := 0, ground := Ground.phase }, { on := 1, ground := Ground.phase }, { on := 2, ground := Ground.phase }, { on := 3, ground := Ground.phase }, { on := 4, ground := Ground.phase }, { on := 5, ground := Ground.phase }, { on := 6, ground := Ground.phase }, { on := 7, ground := Ground.phase }], guard := none }) (by kernel_rfl) rfl (fun K hK => ?_)
              go_simp
              refine hK.out _ _ ⟨fun h => absurd h (by decide), fun h => absurd h (by decide)⟩ ?_
              clear hK K hS hS2 x0 x1 f0 f1
              try simp only [Act.put, List.setIfInBounds_toArray, List.set_cons_zero, List.set_cons_succ]
              refine anyL_done (by kernel_rfl) (show onlyN _ .normal _ _ from ?_) _
              dsimp only [onlyN]
              go_wp2_with fail
              go_meet
              refine ⟨bu, q, m, cq, ys, kk, rfl, ?_, ?_, HKK.out, ?_⟩
              · exact (HXE.out.set 0 (.slice q m cq)).set 1 (.slice none 0 0)
              · exact ⟨HTE.out.len, slN_off (slN_off HTE.out.nodes HXE.out (two_slices _ _ _ _ _ _)) (HXE.out.set 0 (.slice q m cq)) (two_slices _ _ _ _ _ _), HTE.out.nil, HTE.out.le, HTE.out.max, HTE.out.nds⟩
              · exact (HBZ.out.trans (HBv2.out.mono HBZ.out.size)).setCell2 (Nat.le_trans HBZ.out.size HZB.out) _ _
          case rest =>
            obtain ⟨bu, q, m, cq, ys, kk, rfl, HXU, HTU, HKK, HBU⟩ := hcut
            rename World => wx
            have u0 : wx.cell? ⟨bu, 0, none⟩ = some (.slice q m cq) := HXU.out.cell rfl
            have hm3 : m ≤ 4000 := by
              rw [HTU.out.leng]
              unfold ofT
              obtain ⟨l0, ho0, _⟩ := right_parts HRB.out
              rw [ho0]
              dsimp only
              split
              · unfold covN
                rw [List.length_map, List.length_take, List.length_drop, nds_length, ← HN.out.1]
                have := HSM.out.1.2.1
                omega
              · simp
            have HM3 := Lib.hid hm3
            have hmI : (m : Int) ≤ 4000 := by omega
            clear hm3
            go_wp2
            go_loopw [12, 13] (fun fv jv wr => ∃ (j : Nat) (fb : Bool), j ≤ m ∧ jv = .int .i64 (j : Nat) ∧ fv = .bool fb ∧ Hid (fb = freeN ((nds ys).take j)) ∧ wr = wx) (fun _ jv _ => m - (intOf jv).toNat)
            case atStart => exact ⟨0, true, Nat.zero_le _, rfl, rfl, rfl, rfl⟩
            case round =>
              obtain ⟨j, fr, hj, rfl, rfl, HF, hwx⟩ := hrel
              rename World => wr2
              subst hwx
              by_cases hjm : j < m
              · have hjI : (j : Int) < m := by omega
                have hjy : j < ys.length := by rw [← HTU.out.len]; exact hjm
                obtain ⟨b, o, rfl, hcells, _⟩ := HTU.out.nodes.at hjy
                have c3 := hcells.2.2.2.1
                obtain ⟨gr, hgr⟩ : ∃ z, z = (gn ys j).nd.group := ⟨_, rfl⟩
                rw [← hgr] at c3
                have HNX : Hid (∀ fb' : Bool, fb' = (fr && (gr == 0)) → fb' = freeN ((nds ys).take (j + 1))) := fun fb' h => by
                  rw [nds_take hjy, freeN_snoc, ← HF.out, ← hgr]; exact h
                have hwj : IntKind.i64.wrap ((j : Nat) + 1 : Int) = (j : Nat) + 1 := by rw [IntKind.wrap_i64]; omega
                clear hcells hgr hjy
                cases fr with
                | false =>
                  have HX1 := Lib.hid (HNX.out false rfl)
                  clear HNX
                  go_wp2
                  go_roundw
                  case rel => exact ⟨j + 1, false, by omega, by go_num, rfl, HX1.out, by first | rfl | trivial⟩
                  case measure => simp [intOf]; omega
                | true =>
                  by_cases hg0 : gr = 0
                  · have e1 : (gr == 0) = true := by simpa using hg0
                    have HX1 := Lib.hid (HNX.out true (by rw [e1]; rfl))
                    clear HNX hg0
                    go_wp2
                    go_roundw
                    case rel => exact ⟨j + 1, true, by omega, by go_num, rfl, HX1.out, by first | rfl | trivial⟩
                    case measure => simp [intOf]; omega
                  · have e1 : (gr == 0) = false := by simpa using hg0
                    have HX1 := Lib.hid (HNX.out false (by rw [e1]; rfl))
                    clear HNX hg0
                    go_wp2
                    go_roundw
                    case rel => exact ⟨j + 1, false, by omega, by go_num, rfl, HX1.out, by first | rfl | trivial⟩
                    case measure => simp [intOf]; omega
              · have hjI : (m : Int) ≤ j := by omega
                have HFE : Hid (fr = freeN (nds ys)) := by
                  have h := HF.out
                  rw [List.take_of_length_le (by rw [nds_length, ← HTU.out.len]; omega)] at h
                  exact h
                have hu1 : wr2.cell? ⟨bu, 1, none⟩ = some (.slice none 0 0) := HXU.out.cell rfl
                clear HF
                cases fr with
                | false =>
                  have HBR := Lib.hid HBU.out
                  have hTx := HT4.out.below HBR.out
                  have cT0 : wr2.cell? ⟨b0, 0, none⟩ = some (.slice p n c) := hTx.cell rfl
                  have cT1 : wr2.cell? ⟨b0, 1, none⟩ = some (.slice pn g cn) := hTx.cell rfl
                  obtain ⟨wS, hwS⟩ : ∃ X, X = wr2.alloc (.cells #[.slice p n c, .slice pn g cn] 25) := ⟨_, rfl⟩
                  have hbS : Below wr2.heap.size wr2 wS := by rw [hwS]; exact bl_alloc _ _
                  have hXS : Bx wS wr2.heap.size 25 #[.slice p n c, .slice pn g cn] := by rw [hwS]; exact Bx.new wr2 _ _
                  have hB4S := HBR.out.trans (hbS.mono HBR.out.size)
                  have HJ := Lib.hid (join1n ⟨ahNd, none, 0, none, 0⟩ ahNd wr2.heap.size 1 p n c xs (nds xs) pn g cn wS ⟨.inl rfl, .inl rfl, fun _ => rfl, fun _ => rfl, Nat.le_refl _, Nat.le_refl _⟩ rfl (by decide) ⟨HN.out.1, HP4.out.below hB4S, HC.out.1, HC.out.2.1, HC.out.2.2, rfl⟩ hXS HSM.out.2 (by have := HSM.out.1.2.1; omega))
                  rw [show (encN ⟨ahNd, none, 0, none, 0⟩).toArray = #[.int .u8 10, .slice none 0 0, .slice none 0 0, .int .i64 0, .int .i64 0, .int .i64 0, .int .u8 0, .int .u8 0, .bool true] from rfl] at HJ
                  have HWS := Lib.hid hwS
                  have HBS := Lib.hid hB4S
                  clear hTx hwS hbS hXS hB4S
                  go_wp2_with fail
                  rw [← HWS.out]
                  refine (HJ.out).mono ?_
                  rintro e w9 ⟨q9, m9, c9, ys9, rfl, ht9, hb9⟩
                  have HB9 := Lib.hid (HBS.out.trans (hb9.mono HBS.out.size))
                  have hT9 := HT4.out.below HB9.out
                  have cT0 : w9.cell? ⟨b0, 0, none⟩ = some (.slice p n c) := hT9.cell rfl
                  have cT1 : w9.cell? ⟨b0, 1, none⟩ = some (.slice pn g cn) := hT9.cell rfl
                  have cTa : (w9.alloc (.cells #[.slice q9 m9 c9, .slice none 0 0] 25)).cell? ⟨b0, 1, none⟩ = some (.slice pn g cn) := (hT9.below (bl_alloc _ _)).cell rfl
                  obtain ⟨bp, hbp⟩ : ∃ b, b = w9.heap.size := ⟨_, rfl⟩
                  obtain ⟨wB, hwB⟩ : ∃ X, X = (w9.alloc (.cells #[.slice q9 m9 c9, .slice pn g cn] 25)).drew := ⟨_, rfl⟩
                  have hb9B : Below w9.heap.size w9 wB := by rw [hwB]; exact (bl_alloc _ _).drew
                  have hXB : Bx wB bp 25 #[.slice q9 m9 c9, .slice pn g cn] := by rw [hwB, hbp]; exact Bx.new w9 _ _
                  have HB4B := Lib.hid (HB9.out.trans (hb9B.mono HB9.out.size))
                  have hT9B := HT4.out.below HB4B.out
                  obtain ⟨l0, ho0, _, _, _⟩ := right_parts HRB.out
                  have hnd9 : nds ys9 = nds xs ++ [upNd (nds xs).length] := ht9.nds.trans (join_up ho0)
                  have hlen9 : m9 = n + 1 := by rw [ht9.len, ← nds_length, hnd9, List.length_append, nds_length, ← HN.out.1]; rfl
                  have hin9 : ∀ x ∈ ys9, (∃ y ∈ xs, x.nd = y.nd) ∨ x.nd = upNd (nds xs).length := fun x hx => by
                    have h1 : x.nd ∈ nds ys9 := List.mem_map.2 ⟨x, hx, rfl⟩
                    rw [hnd9] at h1
                    rcases List.mem_append.1 h1 with h1 | h1
                    · obtain ⟨y, hy, e⟩ := List.mem_map.1 h1
                      exact .inl ⟨y, hy, e.symm⟩
                    · exact .inr (List.mem_singleton.1 h1)
                  have hfew9 : Few ys9 := fun x hx => by
                    rcases hin9 x hx with ⟨y, hy, e⟩ | e
                    · rw [e]; exact HSM.out.2 y hy
                    · rw [e]; exact ⟨by show 1 ≤ 1000000; omega, by show 0 ≤ 1000000; omega⟩
                  have hk9 : KindsIn ys9 := fun x hx => by
                    rcases hin9 x hx with ⟨y, hy, e⟩ | e
                    · rw [e]; exact HN.out.2.2.2.1 y hy
                    · rw [e]; exact ⟨by show (0 : Int) ≤ 10; omega, by show (10 : Int) < 256; omega⟩
                  have hn4 : (nds xs).length < 4000 := by rw [nds_length, ← HN.out.1]; have := HSM.out.1.2.1; omega
                  obtain ⟨dp, hdp⟩ : ∃ d, d = deepT (nds xs) := ⟨_, rfl⟩
                  have hrr : rightN (nds ys9) nm = decide (dp < 60) := by rw [ht9.nds, right_up HRB.out, decide_eq_true hn4, Bool.true_and, hdp]
                  obtain ⟨C, hC⟩ : ∃ C : World → Prop, C = fun V => Below wB.heap.size wB V ∧ V.cell? ⟨b0, 0, none⟩ = some (.slice p n c) ∧ V.cell? ⟨b0, 1, none⟩ = some (.slice pn g cn) ∧ V.cell? ⟨bp, 0, none⟩ = some (.slice q9 m9 c9) ∧ V.cell? ⟨bp, 1, none⟩ = some (.slice pn g cn) := ⟨_, rfl⟩
                  have HCC : Hid (∀ V, Below wB.heap.size wB V → C V) := by
                    intro V hV
                    rw [hC]
                    exact ⟨hV, (hT9B.below hV).cell rfl, (hT9B.below hV).cell rfl, (hXB.below hV).cell rfl, (hXB.below hV).cell rfl⟩
                  have HRU : Hid (∀ V, C V → Calls Try.prog 6 #[.agg #[.slice q9 m9 c9, .slice pn g cn]] V fun e w' => e = .returned (.bool (decide (dp < 60))) ∧ C w') := by
                    intro V hV
                    rw [hC] at hV
                    have h := rightT_any q9 m9 c9 ys9 pn g cn nm V ht9.len (by have := HSM.out.1.2.1; omega) ((ht9.nodes.below hb9B).below hV.1) hfew9 hk9 HN.out.2.2.2.2.1 HN.out.2.2.2.2.2.2.1 (HP1.out.2.below ((HB14.out.trans (HB4B.out.mono HB14.out.size)).trans (hV.1.mono (HB14.out.trans (HB4B.out.mono HB14.out.size)).size)))
                    rw [rightT_nds, hrr] at h
                    exact h.mono fun e w' ⟨h1, h2⟩ => ⟨h1, HCC.out w' (hV.1.trans (h2.mono hV.1.size))⟩
                  have HDP : Hid (∀ V, C V → Calls Try.prog 12 #[.agg #[.slice p n c, .slice pn g cn]] V fun e w' => e = .returned (.int .i64 (dp : Nat)) ∧ C w') := by
                    intro V hV
                    rw [hC] at hV
                    have h := deepT_any p n c xs (.slice pn g cn) V HN.out.1 (by have := HSM.out.1.2.1; omega) (HP4.out.below (HB4B.out.trans (hV.1.mono HB4B.out.size))) HSM.out.2
                    rw [← hdp] at h
                    exact h.mono fun e w' ⟨h1, h2⟩ => ⟨h1, HCC.out w' (hV.1.trans (h2.mono hV.1.size))⟩
                  have hCd : C wB := HCC.out _ (Below.refl _ _)
                  have hnI4 : decide ((n : Int) < 4000) = true := by simp; have := HSM.out.1.2.1; omega
                  have HPB := Lib.hid (And.intro hwB hbp)
                  clear hdp hrr hin9 hfew9 hk9 hn4 hnd9 hlen9 ht9 hb9 hT9 hb9B hXB hT9B ho0 hwB
                  go_wp2
                  rw [← hbp]
                  refine wp_region_quiet (C := C) (by kernel_rfl) (by kernel_rfl) (by have h := hCd; rw [HPB.out.1] at h; exact h) ?_
                  clear hCd hbp
                  subst hC
                  dsimp only
                  by_cases h60 : dp < 60
                  · have d1 : decide ((dp : Int) < 60) = true := by simp; omega
                    have d2 : decide (dp < 60) = true := decide_eq_true h60
                    rw [d2] at HRU
                    clear h60
                    (refine BigFrame.wpQuiet_want (by kernel_rfl) (fun K hK => ?_); refine ⟨?_, fun V hV => ?_, hK _ ?_⟩; rotate_left; (focus (unfold Oper.quietAt; dsimp only at hV; go_simp; try with_reducible rfl)); clear hK K; (try simp only [Act.put, List.setIfInBounds_toArray, List.set_cons_zero, List.set_cons_succ]))
                    refine BigFrame.wpQuiet_want (by kernel_rfl) (fun K hK => ?_)
                    refine ⟨.bool true, fun V hV => ?_, hK _ ?_⟩
                    · have HV := Lib.hid hV
                      clear hV hK
                      unfold Oper.quietAt
                      go_simp
                      exact HRU.out V HV.out
                    clear hK K
                    try simp only [Act.put, List.setIfInBounds_toArray, List.set_cons_zero, List.set_cons_succ]
                    (refine BigFrame.wpQuiet_want (by kernel_rfl) (fun K hK => ?_); refine ⟨?_, fun V hV => ?_, hK _ ?_⟩; rotate_left; (focus (unfold Oper.quietAt; dsimp only at hV; go_simp; try with_reducible rfl)); clear hK K; (try simp only [Act.put, List.setIfInBounds_toArray, List.set_cons_zero, List.set_cons_succ]))
                    (refine BigFrame.wpQuiet_want (by kernel_rfl) (fun K hK => ?_); refine ⟨?_, fun V hV => ?_, hK _ ?_⟩; rotate_left; (focus (unfold Oper.quietAt; dsimp only at hV; go_simp; try with_reducible rfl)); clear hK K; (try simp only [Act.put, List.setIfInBounds_toArray, List.set_cons_zero, List.set_cons_succ]))
                    (refine BigFrame.wpQuiet_want (by kernel_rfl) (fun K hK => ?_); refine ⟨?_, fun V hV => ?_, hK _ ?_⟩; rotate_left; (focus (unfold Oper.quietAt; dsimp only at hV; go_simp; try with_reducible rfl)); clear hK K; (try simp only [Act.put, List.setIfInBounds_toArray, List.set_cons_zero, List.set_cons_succ]))
                    (refine BigFrame.wpQuiet_want (by kernel_rfl) (fun K hK => ?_); refine ⟨?_, fun V hV => ?_, hK _ ?_⟩; rotate_left; (focus (unfold Oper.quietAt; dsimp only at hV; go_simp; try with_reducible rfl)); clear hK K; (try simp only [Act.put, List.setIfInBounds_toArray, List.set_cons_zero, List.set_cons_succ]))
                    (refine BigFrame.wpQuiet_want (by kernel_rfl) (fun K hK => ?_); refine ⟨?_, fun V hV => ?_, hK _ ?_⟩; rotate_left; (focus (unfold Oper.quietAt; dsimp only at hV; go_simp; try with_reducible rfl)); clear hK K; (try simp only [Act.put, List.setIfInBounds_toArray, List.set_cons_zero, List.set_cons_succ]))
                    (refine BigFrame.wpQuiet_want (by kernel_rfl) (fun K hK => ?_); refine ⟨?_, fun V hV => ?_, hK _ ?_⟩; rotate_left; (focus (unfold Oper.quietAt; dsimp only at hV; go_simp; try with_reducible rfl)); clear hK K; (try simp only [Act.put, List.setIfInBounds_toArray, List.set_cons_zero, List.set_cons_succ]))
                    refine BigFrame.wpQuiet_want (by kernel_rfl) (fun K hK => ?_)
                    refine ⟨.int .i64 ((dp : Nat) : Int), fun V hV => ?_, hK _ ?_⟩
                    · have HV := Lib.hid hV
                      clear hV hK
                      unfold Oper.quietAt
                      go_simp
                      exact HDP.out V HV.out
                    clear hK K
                    try simp only [Act.put, List.setIfInBounds_toArray, List.set_cons_zero, List.set_cons_succ]
                    (refine BigFrame.wpQuiet_want (by kernel_rfl) (fun K hK => ?_); refine ⟨?_, fun V hV => ?_, hK _ ?_⟩; rotate_left; (focus (unfold Oper.quietAt; dsimp only at hV; go_simp; try with_reducible rfl)); clear hK K; (try simp only [Act.put, List.setIfInBounds_toArray, List.set_cons_zero, List.set_cons_succ]))
                    (refine BigFrame.wpQuiet_want (by kernel_rfl) (fun K hK => ?_); refine ⟨?_, fun V hV => ?_, hK _ ?_⟩; rotate_left; (focus (unfold Oper.quietAt; dsimp only at hV; go_simp; try with_reducible rfl)); clear hK K; (try simp only [Act.put, List.setIfInBounds_toArray, List.set_cons_zero, List.set_cons_succ]))
                    (refine BigFrame.wpQuiet_want (by kernel_rfl) (fun K hK => ?_); refine ⟨?_, fun V hV => ?_, hK _ ?_⟩; rotate_left; (focus (unfold Oper.quietAt; dsimp only at hV; go_simp; try with_reducible rfl)); clear hK K; (try simp only [Act.put, List.setIfInBounds_toArray, List.set_cons_zero, List.set_cons_succ]))
                    (refine BigFrame.wpQuiet_want (by kernel_rfl) (fun K hK => ?_); refine ⟨?_, fun V hV => ?_, hK _ ?_⟩; rotate_left; (focus (unfold Oper.quietAt; dsimp only at hV; go_simp; try with_reducible rfl)); clear hK K; (try simp only [Act.put, List.setIfInBounds_toArray, List.set_cons_zero, List.set_cons_succ]))
                    refine wpQuiet_nil ?_
                    intro wE hV
                    have HV := Lib.hid hV.1
                    clear hV
                    go_wp2
                    go_ret
                    exact ⟨rfl, HB1.out.trans ((HB14.out.trans ((HB4B.out.trans (HV.out.mono HB4B.out.size)).mono HB14.out.size)).mono HB1.out.size)⟩
                  · have d1 : decide ((dp : Int) < 60) = false := by simp; omega
                    have d2 : decide (dp < 60) = false := decide_eq_false h60
                    rw [d2] at HRU
                    clear h60
                    (refine BigFrame.wpQuiet_want (by kernel_rfl) (fun K hK => ?_); refine ⟨?_, fun V hV => ?_, hK _ ?_⟩; rotate_left; (focus (unfold Oper.quietAt; dsimp only at hV; go_simp; try with_reducible rfl)); clear hK K; (try simp only [Act.put, List.setIfInBounds_toArray, List.set_cons_zero, List.set_cons_succ]))
                    refine BigFrame.wpQuiet_want (by kernel_rfl) (fun K hK => ?_)
                    refine ⟨.bool false, fun V hV => ?_, hK _ ?_⟩
                    · have HV := Lib.hid hV
                      clear hV hK
                      unfold Oper.quietAt
                      go_simp
                      exact HRU.out V HV.out
                    clear hK K
                    try simp only [Act.put, List.setIfInBounds_toArray, List.set_cons_zero, List.set_cons_succ]
                    (refine BigFrame.wpQuiet_want (by kernel_rfl) (fun K hK => ?_); refine ⟨?_, fun V hV => ?_, hK _ ?_⟩; rotate_left; (focus (unfold Oper.quietAt; dsimp only at hV; go_simp; try with_reducible rfl)); clear hK K; (try simp only [Act.put, List.setIfInBounds_toArray, List.set_cons_zero, List.set_cons_succ]))
                    (refine BigFrame.wpQuiet_want (by kernel_rfl) (fun K hK => ?_); refine ⟨?_, fun V hV => ?_, hK _ ?_⟩; rotate_left; (focus (unfold Oper.quietAt; dsimp only at hV; go_simp; try with_reducible rfl)); clear hK K; (try simp only [Act.put, List.setIfInBounds_toArray, List.set_cons_zero, List.set_cons_succ]))
                    (refine BigFrame.wpQuiet_want (by kernel_rfl) (fun K hK => ?_); refine ⟨?_, fun V hV => ?_, hK _ ?_⟩; rotate_left; (focus (unfold Oper.quietAt; dsimp only at hV; go_simp; try with_reducible rfl)); clear hK K; (try simp only [Act.put, List.setIfInBounds_toArray, List.set_cons_zero, List.set_cons_succ]))
                    (refine BigFrame.wpQuiet_want (by kernel_rfl) (fun K hK => ?_); refine ⟨?_, fun V hV => ?_, hK _ ?_⟩; rotate_left; (focus (unfold Oper.quietAt; dsimp only at hV; go_simp; try with_reducible rfl)); clear hK K; (try simp only [Act.put, List.setIfInBounds_toArray, List.set_cons_zero, List.set_cons_succ]))
                    (refine BigFrame.wpQuiet_want (by kernel_rfl) (fun K hK => ?_); refine ⟨?_, fun V hV => ?_, hK _ ?_⟩; rotate_left; (focus (unfold Oper.quietAt; dsimp only at hV; go_simp; try with_reducible rfl)); clear hK K; (try simp only [Act.put, List.setIfInBounds_toArray, List.set_cons_zero, List.set_cons_succ]))
                    (refine BigFrame.wpQuiet_want (by kernel_rfl) (fun K hK => ?_); refine ⟨?_, fun V hV => ?_, hK _ ?_⟩; rotate_left; (focus (unfold Oper.quietAt; dsimp only at hV; go_simp; try with_reducible rfl)); clear hK K; (try simp only [Act.put, List.setIfInBounds_toArray, List.set_cons_zero, List.set_cons_succ]))
                    refine BigFrame.wpQuiet_want (by kernel_rfl) (fun K hK => ?_)
                    refine ⟨.int .i64 ((dp : Nat) : Int), fun V hV => ?_, hK _ ?_⟩
                    · have HV := Lib.hid hV
                      clear hV hK
                      unfold Oper.quietAt
                      go_simp
                      exact HDP.out V HV.out
                    clear hK K
                    try simp only [Act.put, List.setIfInBounds_toArray, List.set_cons_zero, List.set_cons_succ]
                    (refine BigFrame.wpQuiet_want (by kernel_rfl) (fun K hK => ?_); refine ⟨?_, fun V hV => ?_, hK _ ?_⟩; rotate_left; (focus (unfold Oper.quietAt; dsimp only at hV; go_simp; try with_reducible rfl)); clear hK K; (try simp only [Act.put, List.setIfInBounds_toArray, List.set_cons_zero, List.set_cons_succ]))
                    (refine BigFrame.wpQuiet_want (by kernel_rfl) (fun K hK => ?_); refine ⟨?_, fun V hV => ?_, hK _ ?_⟩; rotate_left; (focus (unfold Oper.quietAt; dsimp only at hV; go_simp; try with_reducible rfl)); clear hK K; (try simp only [Act.put, List.setIfInBounds_toArray, List.set_cons_zero, List.set_cons_succ]))
                    (refine BigFrame.wpQuiet_want (by kernel_rfl) (fun K hK => ?_); refine ⟨?_, fun V hV => ?_, hK _ ?_⟩; rotate_left; (focus (unfold Oper.quietAt; dsimp only at hV; go_simp; try with_reducible rfl)); clear hK K; (try simp only [Act.put, List.setIfInBounds_toArray, List.set_cons_zero, List.set_cons_succ]))
                    (refine BigFrame.wpQuiet_want (by kernel_rfl) (fun K hK => ?_); refine ⟨?_, fun V hV => ?_, hK _ ?_⟩; rotate_left; (focus (unfold Oper.quietAt; dsimp only at hV; go_simp; try with_reducible rfl)); clear hK K; (try simp only [Act.put, List.setIfInBounds_toArray, List.set_cons_zero, List.set_cons_succ]))
                    refine wpQuiet_nil ?_
                    intro wE hV
                    have HV := Lib.hid hV.1
                    clear hV
                    go_wp2
                    go_ret
                    exact ⟨rfl, HB1.out.trans ((HB14.out.trans ((HB4B.out.trans (HV.out.mono HB4B.out.size)).mono HB14.out.size)).mono HB1.out.size)⟩
                | true =>
                  have hof : rightN (nds ys) [] = true := by
                    have h := right_cov HRB.out (k := kk) (by rw [nds_length, ← HN.out.1]; exact HKK.out) (by rw [← HTU.out.nds]; exact HFE.out.symm)
                    rw [HTU.out.nds]; exact h
                  have hinU : ∀ x ∈ ys, ∃ y ∈ xs, ∃ d, x.nd = mv d y.nd := fun x hx => by
                    have h1 : x.nd ∈ nds ys := List.mem_map.2 ⟨x, hx, rfl⟩
                    rw [HTU.out.nds] at h1
                    unfold ofT at h1
                    obtain ⟨l0, ho0, _⟩ := right_parts HRB.out
                    rw [ho0] at h1
                    dsimp only at h1
                    split at h1
                    · obtain ⟨d, hd, e⟩ := cov_mem h1
                      obtain ⟨y, hy, e2⟩ := List.mem_map.1 hd
                      exact ⟨y, hy, _, by rw [e2]; exact e⟩
                    · simp at h1
                  have HRO := Lib.hid (rightT_any q m cq ys none 0 0 [] wr2 HTU.out.len (by have := HM3.out; omega) HTU.out.nodes (fun x hx => by
                      obtain ⟨y, hy, d, e⟩ := hinU x hx
                      rw [e]
                      have := HSM.out.2 y hy
                      exact ⟨by show (y.nd.kids.map _).length ≤ _; rw [List.length_map]; exact this.1, this.2⟩) (fun x hx => by
                      obtain ⟨y, hy, d, e⟩ := hinU x hx
                      rw [e]
                      exact HN.out.2.2.2.1 y hy) rfl (Nat.le_refl _) (.inl rfl))
                  rw [rightT_nds, hof] at HRO
                  clear hof hinU
                  go_wp2_with fail
                  refine (HRO.out).mono ?_
                  rintro e w8 ⟨rfl, hb8⟩
                  have HB48 := Lib.hid (HBU.out.trans (hb8.mono HBU.out.size))
                  clear hb8 hu1 u0
                  have HBR := Lib.hid HB48.out
                  have hTx := HT4.out.below HBR.out
                  have cT0 : w8.cell? ⟨b0, 0, none⟩ = some (.slice p n c) := hTx.cell rfl
                  have cT1 : w8.cell? ⟨b0, 1, none⟩ = some (.slice pn g cn) := hTx.cell rfl
                  obtain ⟨wS, hwS⟩ : ∃ X, X = w8.alloc (.cells #[.slice p n c, .slice pn g cn] 25) := ⟨_, rfl⟩
                  have hbS : Below w8.heap.size w8 wS := by rw [hwS]; exact bl_alloc _ _
                  have hXS : Bx wS w8.heap.size 25 #[.slice p n c, .slice pn g cn] := by rw [hwS]; exact Bx.new w8 _ _
                  have hB4S := HBR.out.trans (hbS.mono HBR.out.size)
                  have HJ := Lib.hid (join1n ⟨ahNd, none, 0, none, 0⟩ ahNd w8.heap.size 1 p n c xs (nds xs) pn g cn wS ⟨.inl rfl, .inl rfl, fun _ => rfl, fun _ => rfl, Nat.le_refl _, Nat.le_refl _⟩ rfl (by decide) ⟨HN.out.1, HP4.out.below hB4S, HC.out.1, HC.out.2.1, HC.out.2.2, rfl⟩ hXS HSM.out.2 (by have := HSM.out.1.2.1; omega))
                  rw [show (encN ⟨ahNd, none, 0, none, 0⟩).toArray = #[.int .u8 10, .slice none 0 0, .slice none 0 0, .int .i64 0, .int .i64 0, .int .i64 0, .int .u8 0, .int .u8 0, .bool true] from rfl] at HJ
                  have HWS := Lib.hid hwS
                  have HBS := Lib.hid hB4S
                  clear hTx hwS hbS hXS hB4S
                  go_wp2_with fail
                  rw [← HWS.out]
                  refine (HJ.out).mono ?_
                  rintro e w9 ⟨q9, m9, c9, ys9, rfl, ht9, hb9⟩
                  have HB9 := Lib.hid (HBS.out.trans (hb9.mono HBS.out.size))
                  have hT9 := HT4.out.below HB9.out
                  have cT0 : w9.cell? ⟨b0, 0, none⟩ = some (.slice p n c) := hT9.cell rfl
                  have cT1 : w9.cell? ⟨b0, 1, none⟩ = some (.slice pn g cn) := hT9.cell rfl
                  have cTa : (w9.alloc (.cells #[.slice q9 m9 c9, .slice none 0 0] 25)).cell? ⟨b0, 1, none⟩ = some (.slice pn g cn) := (hT9.below (bl_alloc _ _)).cell rfl
                  obtain ⟨bp, hbp⟩ : ∃ b, b = w9.heap.size := ⟨_, rfl⟩
                  obtain ⟨wB, hwB⟩ : ∃ X, X = (w9.alloc (.cells #[.slice q9 m9 c9, .slice pn g cn] 25)).drew := ⟨_, rfl⟩
                  have hb9B : Below w9.heap.size w9 wB := by rw [hwB]; exact (bl_alloc _ _).drew
                  have hXB : Bx wB bp 25 #[.slice q9 m9 c9, .slice pn g cn] := by rw [hwB, hbp]; exact Bx.new w9 _ _
                  have HB4B := Lib.hid (HB9.out.trans (hb9B.mono HB9.out.size))
                  have hT9B := HT4.out.below HB4B.out
                  obtain ⟨l0, ho0, _, _, _⟩ := right_parts HRB.out
                  have hnd9 : nds ys9 = nds xs ++ [upNd (nds xs).length] := ht9.nds.trans (join_up ho0)
                  have hlen9 : m9 = n + 1 := by rw [ht9.len, ← nds_length, hnd9, List.length_append, nds_length, ← HN.out.1]; rfl
                  have hin9 : ∀ x ∈ ys9, (∃ y ∈ xs, x.nd = y.nd) ∨ x.nd = upNd (nds xs).length := fun x hx => by
                    have h1 : x.nd ∈ nds ys9 := List.mem_map.2 ⟨x, hx, rfl⟩
                    rw [hnd9] at h1
                    rcases List.mem_append.1 h1 with h1 | h1
                    · obtain ⟨y, hy, e⟩ := List.mem_map.1 h1
                      exact .inl ⟨y, hy, e.symm⟩
                    · exact .inr (List.mem_singleton.1 h1)
                  have hfew9 : Few ys9 := fun x hx => by
                    rcases hin9 x hx with ⟨y, hy, e⟩ | e
                    · rw [e]; exact HSM.out.2 y hy
                    · rw [e]; exact ⟨by show 1 ≤ 1000000; omega, by show 0 ≤ 1000000; omega⟩
                  have hk9 : KindsIn ys9 := fun x hx => by
                    rcases hin9 x hx with ⟨y, hy, e⟩ | e
                    · rw [e]; exact HN.out.2.2.2.1 y hy
                    · rw [e]; exact ⟨by show (0 : Int) ≤ 10; omega, by show (10 : Int) < 256; omega⟩
                  have hn4 : (nds xs).length < 4000 := by rw [nds_length, ← HN.out.1]; have := HSM.out.1.2.1; omega
                  obtain ⟨dp, hdp⟩ : ∃ d, d = deepT (nds xs) := ⟨_, rfl⟩
                  have hrr : rightN (nds ys9) nm = decide (dp < 60) := by rw [ht9.nds, right_up HRB.out, decide_eq_true hn4, Bool.true_and, hdp]
                  obtain ⟨C, hC⟩ : ∃ C : World → Prop, C = fun V => Below wB.heap.size wB V ∧ V.cell? ⟨b0, 0, none⟩ = some (.slice p n c) ∧ V.cell? ⟨b0, 1, none⟩ = some (.slice pn g cn) ∧ V.cell? ⟨bp, 0, none⟩ = some (.slice q9 m9 c9) ∧ V.cell? ⟨bp, 1, none⟩ = some (.slice pn g cn) := ⟨_, rfl⟩
                  have HCC : Hid (∀ V, Below wB.heap.size wB V → C V) := by
                    intro V hV
                    rw [hC]
                    exact ⟨hV, (hT9B.below hV).cell rfl, (hT9B.below hV).cell rfl, (hXB.below hV).cell rfl, (hXB.below hV).cell rfl⟩
                  have HRU : Hid (∀ V, C V → Calls Try.prog 6 #[.agg #[.slice q9 m9 c9, .slice pn g cn]] V fun e w' => e = .returned (.bool (decide (dp < 60))) ∧ C w') := by
                    intro V hV
                    rw [hC] at hV
                    have h := rightT_any q9 m9 c9 ys9 pn g cn nm V ht9.len (by have := HSM.out.1.2.1; omega) ((ht9.nodes.below hb9B).below hV.1) hfew9 hk9 HN.out.2.2.2.2.1 HN.out.2.2.2.2.2.2.1 (HP1.out.2.below ((HB14.out.trans (HB4B.out.mono HB14.out.size)).trans (hV.1.mono (HB14.out.trans (HB4B.out.mono HB14.out.size)).size)))
                    rw [rightT_nds, hrr] at h
                    exact h.mono fun e w' ⟨h1, h2⟩ => ⟨h1, HCC.out w' (hV.1.trans (h2.mono hV.1.size))⟩
                  have HDP : Hid (∀ V, C V → Calls Try.prog 12 #[.agg #[.slice p n c, .slice pn g cn]] V fun e w' => e = .returned (.int .i64 (dp : Nat)) ∧ C w') := by
                    intro V hV
                    rw [hC] at hV
                    have h := deepT_any p n c xs (.slice pn g cn) V HN.out.1 (by have := HSM.out.1.2.1; omega) (HP4.out.below (HB4B.out.trans (hV.1.mono HB4B.out.size))) HSM.out.2
                    rw [← hdp] at h
                    exact h.mono fun e w' ⟨h1, h2⟩ => ⟨h1, HCC.out w' (hV.1.trans (h2.mono hV.1.size))⟩
                  have hCd : C wB := HCC.out _ (Below.refl _ _)
                  have hnI4 : decide ((n : Int) < 4000) = true := by simp; have := HSM.out.1.2.1; omega
                  have HPB := Lib.hid (And.intro hwB hbp)
                  clear hdp hrr hin9 hfew9 hk9 hn4 hnd9 hlen9 ht9 hb9 hT9 hb9B hXB hT9B ho0 hwB
                  go_wp2
                  rw [← hbp]
                  refine wp_region_quiet (C := C) (by kernel_rfl) (by kernel_rfl) (by have h := hCd; rw [HPB.out.1] at h; exact h) ?_
                  clear hCd hbp
                  subst hC
                  dsimp only
                  by_cases h60 : dp < 60
                  · have d1 : decide ((dp : Int) < 60) = true := by simp; omega
                    have d2 : decide (dp < 60) = true := decide_eq_true h60
                    rw [d2] at HRU
                    clear h60
                    (refine BigFrame.wpQuiet_want (by kernel_rfl) (fun K hK => ?_); refine ⟨?_, fun V hV => ?_, hK _ ?_⟩; rotate_left; (focus (unfold Oper.quietAt; dsimp only at hV; go_simp; try with_reducible rfl)); clear hK K; (try simp only [Act.put, List.setIfInBounds_toArray, List.set_cons_zero, List.set_cons_succ]))
                    refine BigFrame.wpQuiet_want (by kernel_rfl) (fun K hK => ?_)
                    refine ⟨.bool true, fun V hV => ?_, hK _ ?_⟩
                    · have HV := Lib.hid hV
                      clear hV hK
                      unfold Oper.quietAt
                      go_simp
                      exact HRU.out V HV.out
                    clear hK K
                    try simp only [Act.put, List.setIfInBounds_toArray, List.set_cons_zero, List.set_cons_succ]
                    (refine BigFrame.wpQuiet_want (by kernel_rfl) (fun K hK => ?_); refine ⟨?_, fun V hV => ?_, hK _ ?_⟩; rotate_left; (focus (unfold Oper.quietAt; dsimp only at hV; go_simp; try with_reducible rfl)); clear hK K; (try simp only [Act.put, List.setIfInBounds_toArray, List.set_cons_zero, List.set_cons_succ]))
                    (refine BigFrame.wpQuiet_want (by kernel_rfl) (fun K hK => ?_); refine ⟨?_, fun V hV => ?_, hK _ ?_⟩; rotate_left; (focus (unfold Oper.quietAt; dsimp only at hV; go_simp; try with_reducible rfl)); clear hK K; (try simp only [Act.put, List.setIfInBounds_toArray, List.set_cons_zero, List.set_cons_succ]))
                    (refine BigFrame.wpQuiet_want (by kernel_rfl) (fun K hK => ?_); refine ⟨?_, fun V hV => ?_, hK _ ?_⟩; rotate_left; (focus (unfold Oper.quietAt; dsimp only at hV; go_simp; try with_reducible rfl)); clear hK K; (try simp only [Act.put, List.setIfInBounds_toArray, List.set_cons_zero, List.set_cons_succ]))
                    (refine BigFrame.wpQuiet_want (by kernel_rfl) (fun K hK => ?_); refine ⟨?_, fun V hV => ?_, hK _ ?_⟩; rotate_left; (focus (unfold Oper.quietAt; dsimp only at hV; go_simp; try with_reducible rfl)); clear hK K; (try simp only [Act.put, List.setIfInBounds_toArray, List.set_cons_zero, List.set_cons_succ]))
                    (refine BigFrame.wpQuiet_want (by kernel_rfl) (fun K hK => ?_); refine ⟨?_, fun V hV => ?_, hK _ ?_⟩; rotate_left; (focus (unfold Oper.quietAt; dsimp only at hV; go_simp; try with_reducible rfl)); clear hK K; (try simp only [Act.put, List.setIfInBounds_toArray, List.set_cons_zero, List.set_cons_succ]))
                    (refine BigFrame.wpQuiet_want (by kernel_rfl) (fun K hK => ?_); refine ⟨?_, fun V hV => ?_, hK _ ?_⟩; rotate_left; (focus (unfold Oper.quietAt; dsimp only at hV; go_simp; try with_reducible rfl)); clear hK K; (try simp only [Act.put, List.setIfInBounds_toArray, List.set_cons_zero, List.set_cons_succ]))
                    refine BigFrame.wpQuiet_want (by kernel_rfl) (fun K hK => ?_)
                    refine ⟨.int .i64 ((dp : Nat) : Int), fun V hV => ?_, hK _ ?_⟩
                    · have HV := Lib.hid hV
                      clear hV hK
                      unfold Oper.quietAt
                      go_simp
                      exact HDP.out V HV.out
                    clear hK K
                    try simp only [Act.put, List.setIfInBounds_toArray, List.set_cons_zero, List.set_cons_succ]
                    (refine BigFrame.wpQuiet_want (by kernel_rfl) (fun K hK => ?_); refine ⟨?_, fun V hV => ?_, hK _ ?_⟩; rotate_left; (focus (unfold Oper.quietAt; dsimp only at hV; go_simp; try with_reducible rfl)); clear hK K; (try simp only [Act.put, List.setIfInBounds_toArray, List.set_cons_zero, List.set_cons_succ]))
                    (refine BigFrame.wpQuiet_want (by kernel_rfl) (fun K hK => ?_); refine ⟨?_, fun V hV => ?_, hK _ ?_⟩; rotate_left; (focus (unfold Oper.quietAt; dsimp only at hV; go_simp; try with_reducible rfl)); clear hK K; (try simp only [Act.put, List.setIfInBounds_toArray, List.set_cons_zero, List.set_cons_succ]))
                    (refine BigFrame.wpQuiet_want (by kernel_rfl) (fun K hK => ?_); refine ⟨?_, fun V hV => ?_, hK _ ?_⟩; rotate_left; (focus (unfold Oper.quietAt; dsimp only at hV; go_simp; try with_reducible rfl)); clear hK K; (try simp only [Act.put, List.setIfInBounds_toArray, List.set_cons_zero, List.set_cons_succ]))
                    (refine BigFrame.wpQuiet_want (by kernel_rfl) (fun K hK => ?_); refine ⟨?_, fun V hV => ?_, hK _ ?_⟩; rotate_left; (focus (unfold Oper.quietAt; dsimp only at hV; go_simp; try with_reducible rfl)); clear hK K; (try simp only [Act.put, List.setIfInBounds_toArray, List.set_cons_zero, List.set_cons_succ]))
                    refine wpQuiet_nil ?_
                    intro wE hV
                    have HV := Lib.hid hV.1
                    clear hV
                    go_wp2
                    go_ret
                    exact ⟨rfl, HB1.out.trans ((HB14.out.trans ((HB4B.out.trans (HV.out.mono HB4B.out.size)).mono HB14.out.size)).mono HB1.out.size)⟩
                  · have d1 : decide ((dp : Int) < 60) = false := by simp; omega
                    have d2 : decide (dp < 60) = false := decide_eq_false h60
                    rw [d2] at HRU
                    clear h60
                    (refine BigFrame.wpQuiet_want (by kernel_rfl) (fun K hK => ?_); refine ⟨?_, fun V hV => ?_, hK _ ?_⟩; rotate_left; (focus (unfold Oper.quietAt; dsimp only at hV; go_simp; try with_reducible rfl)); clear hK K; (try simp only [Act.put, List.setIfInBounds_toArray, List.set_cons_zero, List.set_cons_succ]))
                    refine BigFrame.wpQuiet_want (by kernel_rfl) (fun K hK => ?_)
                    refine ⟨.bool false, fun V hV => ?_, hK _ ?_⟩
                    · have HV := Lib.hid hV
                      clear hV hK
                      unfold Oper.quietAt
                      go_simp
                      exact HRU.out V HV.out
                    clear hK K
                    try simp only [Act.put, List.setIfInBounds_toArray, List.set_cons_zero, List.set_cons_succ]
                    (refine BigFrame.wpQuiet_want (by kernel_rfl) (fun K hK => ?_); refine ⟨?_, fun V hV => ?_, hK _ ?_⟩; rotate_left; (focus (unfold Oper.quietAt; dsimp only at hV; go_simp; try with_reducible rfl)); clear hK K; (try simp only [Act.put, List.setIfInBounds_toArray, List.set_cons_zero, List.set_cons_succ]))
                    (refine BigFrame.wpQuiet_want (by kernel_rfl) (fun K hK => ?_); refine ⟨?_, fun V hV => ?_, hK _ ?_⟩; rotate_left; (focus (unfold Oper.quietAt; dsimp only at hV; go_simp; try with_reducible rfl)); clear hK K; (try simp only [Act.put, List.setIfInBounds_toArray, List.set_cons_zero, List.set_cons_succ]))
                    (refine BigFrame.wpQuiet_want (by kernel_rfl) (fun K hK => ?_); refine ⟨?_, fun V hV => ?_, hK _ ?_⟩; rotate_left; (focus (unfold Oper.quietAt; dsimp only at hV; go_simp; try with_reducible rfl)); clear hK K; (try simp only [Act.put, List.setIfInBounds_toArray, List.set_cons_zero, List.set_cons_succ]))
                    (refine BigFrame.wpQuiet_want (by kernel_rfl) (fun K hK => ?_); refine ⟨?_, fun V hV => ?_, hK _ ?_⟩; rotate_left; (focus (unfold Oper.quietAt; dsimp only at hV; go_simp; try with_reducible rfl)); clear hK K; (try simp only [Act.put, List.setIfInBounds_toArray, List.set_cons_zero, List.set_cons_succ]))
                    (refine BigFrame.wpQuiet_want (by kernel_rfl) (fun K hK => ?_); refine ⟨?_, fun V hV => ?_, hK _ ?_⟩; rotate_left; (focus (unfold Oper.quietAt; dsimp only at hV; go_simp; try with_reducible rfl)); clear hK K; (try simp only [Act.put, List.setIfInBounds_toArray, List.set_cons_zero, List.set_cons_succ]))
                    (refine BigFrame.wpQuiet_want (by kernel_rfl) (fun K hK => ?_); refine ⟨?_, fun V hV => ?_, hK _ ?_⟩; rotate_left; (focus (unfold Oper.quietAt; dsimp only at hV; go_simp; try with_reducible rfl)); clear hK K; (try simp only [Act.put, List.setIfInBounds_toArray, List.set_cons_zero, List.set_cons_succ]))
                    refine BigFrame.wpQuiet_want (by kernel_rfl) (fun K hK => ?_)
                    refine ⟨.int .i64 ((dp : Nat) : Int), fun V hV => ?_, hK _ ?_⟩
                    · have HV := Lib.hid hV
                      clear hV hK
                      unfold Oper.quietAt
                      go_simp
                      exact HDP.out V HV.out
                    clear hK K
                    try simp only [Act.put, List.setIfInBounds_toArray, List.set_cons_zero, List.set_cons_succ]
                    (refine BigFrame.wpQuiet_want (by kernel_rfl) (fun K hK => ?_); refine ⟨?_, fun V hV => ?_, hK _ ?_⟩; rotate_left; (focus (unfold Oper.quietAt; dsimp only at hV; go_simp; try with_reducible rfl)); clear hK K; (try simp only [Act.put, List.setIfInBounds_toArray, List.set_cons_zero, List.set_cons_succ]))
                    (refine BigFrame.wpQuiet_want (by kernel_rfl) (fun K hK => ?_); refine ⟨?_, fun V hV => ?_, hK _ ?_⟩; rotate_left; (focus (unfold Oper.quietAt; dsimp only at hV; go_simp; try with_reducible rfl)); clear hK K; (try simp only [Act.put, List.setIfInBounds_toArray, List.set_cons_zero, List.set_cons_succ]))
                    (refine BigFrame.wpQuiet_want (by kernel_rfl) (fun K hK => ?_); refine ⟨?_, fun V hV => ?_, hK _ ?_⟩; rotate_left; (focus (unfold Oper.quietAt; dsimp only at hV; go_simp; try with_reducible rfl)); clear hK K; (try simp only [Act.put, List.setIfInBounds_toArray, List.set_cons_zero, List.set_cons_succ]))
                    (refine BigFrame.wpQuiet_want (by kernel_rfl) (fun K hK => ?_); refine ⟨?_, fun V hV => ?_, hK _ ?_⟩; rotate_left; (focus (unfold Oper.quietAt; dsimp only at hV; go_simp; try with_reducible rfl)); clear hK K; (try simp only [Act.put, List.setIfInBounds_toArray, List.set_cons_zero, List.set_cons_succ]))
                    refine wpQuiet_nil ?_
                    intro wE hV
                    have HV := Lib.hid hV.1
                    clear hV
                    go_wp2
                    go_ret
                    exact ⟨rfl, HB1.out.trans ((HB14.out.trans ((HB4B.out.trans (HV.out.mono HB4B.out.size)).mono HB14.out.size)).mono HB1.out.size)⟩
end Go.Proofs.Ythhflemgmmmdiaa
