/- The document's trees: the walks of sound, Right, Spread, Groups. -/
/- The document's trees: the walks of Right, Spread, Groups. -/
import Derived.Test.YtjpccmiaimkmbaaGreatJc
import Derived.Test.YtjpccmiaimkmbaaGreatJd
import Derived.Test.YtjpccmiaimkmbaaGreatJe
import Derived.Test.YtjpccmiaimkmbaaGreatJf
import Derived.Test.YtjpccmiaimkmbaaGreatMp

namespace Go.Proofs.YtjpccmiaimkmbaaGreat
open Go.RowKit Tnr Tnt

def okNd (nm : Nat) (d : Nd) : Bool := rkindN d && (!(d.kind == 5 || d.kind == 8) || (decide (1 ≤ d.group) && decide (d.group ≤ (nm : Int))))
def rsoundN (L : List Nd) (nm : List ByteArray) : Bool := (ordT L).isSome && (namedB nm && L.all (okNd nm.length))
theorem all_bad {L : List Nd} {P : Nd → Bool} {d : Nd} (h : d ∈ L) (hb : P d = false) : L.all P = false := by rw [List.all_eq_false]; exact ⟨d, h, by rw [hb]; decide⟩
theorem gn_in {xs : List NV} {k : Nat} (h : k < xs.length) : (gn xs k).nd ∈ nds xs := List.mem_map.2 ⟨_, gn_mem h, rfl⟩
theorem all_of {xs : List NV} {P : Nd → Bool} (h : ∀ j, j < xs.length → P (gn xs j).nd = true) : (nds xs).all P = true := by
  rw [List.all_eq_true]
  intro d hd
  obtain ⟨x, hx, rfl⟩ := List.mem_map.1 hd
  obtain ⟨i, hi, rfl⟩ := List.getElem_of_mem hx
  rw [← gn_get hi]; exact h i hi
set_option maxHeartbeats 6400000 in
set_option maxRecDepth 100000 in
theorem rsound_any (p : Option Addr) (n c : Nat) (xs : List NV) (pn : Option Addr) (nn cn : Nat) (nm : List ByteArray) (w : World) (hn : n = xs.length) (hnm : n ≤ 1000000000) (hp : SlN w p xs) (hf : Few xs) (hnn : nn = nm.length) (hX : SlX w pn nm) :
    Calls Tryz.prog 99 #[.agg #[.slice p n c, .slice pn nn cn]] w fun e w' => e = .returned (.bool (rsoundN (nds xs) nm)) ∧ Below w.heap.size w w' := by
  obtain ⟨W1, hW1⟩ : ∃ W, W = w.alloc (.cells #[.slice p n c, .slice pn nn cn] 34) := ⟨_, rfl⟩
  have hb1 : Below w.heap.size w W1 := by rw [hW1]; exact bl_alloc _ _
  have hT : Bx W1 w.heap.size 34 #[.slice p n c, .slice pn nn cn] := by rw [hW1]; exact Bx.new _ _ _
  obtain ⟨b0, hb0⟩ : ∃ b, b = w.heap.size := ⟨_, rfl⟩
  rw [← hb0] at hT
  have HP := Lib.hid (hp.below hb1)
  have HX := Lib.hid (hX.below hb1)
  have HN := Lib.hid (And.intro hn (And.intro hf hnn))
  have HT := Lib.hid hT
  have HB1 := Lib.hid hb1
  have HNM := Lib.hid hnm
  have HW1 := Lib.hid (And.intro hW1 hb0)
  have cT0 : W1.cell? ⟨b0, 0, none⟩ = some (.slice p n c) := hT.cell rfl
  have cT1 : W1.cell? ⟨b0, 1, none⟩ = some (.slice pn nn cn) := hT.cell rfl
  have HO := Lib.hid (rorder_any p n c xs (.slice pn nn cn) W1 hn hnm (hp.below hb1) hf)
  clear hn hnm hp hf hnn hX hb1 hT hW1 hb0
  obtain ⟨ob, hob⟩ : ∃ b : Bool, b = (ordT (nds xs)).isSome := ⟨_, rfl⟩
  have HOB := Lib.hid hob
  rw [← hob] at HO
  clear hob
  go_enter Tryz.func99, Tryz.ntmps99
  go_wp2_with fail
  rw [← HW1.out.2, show w.alloc (.cells #[.slice p n c, .slice pn nn cn] 34) = W1 from HW1.out.1.symm]
  go_wp2_with fail
  refine (HO.out).mono ?_
  rintro e w2 ⟨rfl, hb2⟩
  have hT2 := HT.out.below hb2
  have cT0 : w2.cell? ⟨b0, 0, none⟩ = some (.slice p n c) := hT2.cell rfl
  have cT1 : w2.cell? ⟨b0, 1, none⟩ = some (.slice pn nn cn) := hT2.cell rfl
  have HB2 := Lib.hid (HB1.out.trans (hb2.mono HB1.out.size))
  have HRN := Lib.hid (rnames_any pn nn cn nm w2 HN.out.2.2 (HX.out.below hb2))
  have HT2 := Lib.hid hT2
  have HP2 := Lib.hid (HP.out.below hb2)
  clear hb2 hT2
  obtain ⟨nb, hnb⟩ : ∃ b : Bool, b = namedB nm := ⟨_, rfl⟩
  have HNB := Lib.hid hnb
  rw [← hnb] at HRN
  clear hnb
  cases ob with
  | false =>
    have HF : Hid (rsoundN (nds xs) nm = false) := by show _ = _; unfold rsoundN; rw [← HOB.out]; rfl
    go_wp2
    go_ret
    exact ⟨by rw [HF.out]; rfl, HB2.out⟩
  | true =>
    go_wp2_with fail
    refine (HRN.out).mono ?_
    rintro e w3 ⟨rfl, hb3⟩
    have hT3 := HT2.out.below hb3
    have HB3 := Lib.hid (HB2.out.trans (hb3.mono HB2.out.size))
    have HT3 := Lib.hid hT3
    have HPL := Lib.hid (HP2.out.below hb3)
    clear hb3 cT0 cT1
    have cT0 : w3.cell? ⟨b0, 0, none⟩ = some (.slice p n c) := hT3.cell rfl
    clear hT3
    cases nb with
    | false =>
      have HF : Hid (rsoundN (nds xs) nm = false) := by show _ = _; unfold rsoundN; rw [← HOB.out, ← HNB.out]; rfl
      go_wp2
      go_ret
      exact ⟨by rw [HF.out]; rfl, HB3.out⟩
    | true =>
      have HSO : Hid (rsoundN (nds xs) nm = (nds xs).all (okNd nm.length)) := by show _ = _; unfold rsoundN; rw [← HOB.out, ← HNB.out]; rfl
      have HN4 : Hid (n ≤ 4000) := by
        show _ ≤ _
        have h := HOB.out
        cases ho : ordT (nds xs) with
        | none => rw [ho] at h; cases h
        | some l =>
          have := (ordT_len ho).2
          rw [nds_length, ← HN.out.1] at this
          exact this
      go_wp2
      go_loopw [3] (fun iv wr => ∃ k : Nat, k ≤ n ∧ iv = .int .i64 (k : Nat) ∧ Hid (∀ j, j < k → okNd nn (gn xs j).nd = true) ∧ Hid (Below w3.heap.size w3 wr)) (fun iv _ => n - (intOf iv).toNat)
      case atStart => exact ⟨0, Nat.zero_le _, rfl, fun j hj => absurd hj (by omega), Below.refl _ _⟩
      case round =>
        obtain ⟨k, hk, rfl, HE, HW⟩ := hrel
        rename World => wr
        have hTr := HT3.out.below HW.out
        have cT0 : wr.cell? ⟨b0, 0, none⟩ = some (.slice p n c) := hTr.cell rfl
        clear hTr
        by_cases hkn : k < n
        · skip
          have hkI : (k : Int) < n := by omega
          have hkx : k < xs.length := by have := HN.out.1; omega
          obtain ⟨b, o, rfl, hcells, hin⟩ := (HPL.out.below HW.out).at hkx
          have hfx := HN.out.2.1 _ (gn_mem hkx)
          have hmem := gn_in hkx
          obtain ⟨x, hx⟩ : ∃ x, x = gn xs k := ⟨_, rfl⟩
          have HXE := Lib.hid hx
          rw [← hx] at hcells hin hfx hmem
          obtain ⟨ls, lk, hls, hlk, hlit⟩ := node_lit2 x
          obtain ⟨c0, c1, c2, c3, c4, c5, c6, c7, c8⟩ := hcells
          unfold NodeLit at hlit
          rw [← hls] at c1
          rw [← hlk] at c2
          obtain ⟨kd, hkd⟩ : ∃ z, z = x.nd.kind := ⟨_, rfl⟩
          obtain ⟨gr, hgr⟩ : ∃ z, z = x.nd.group := ⟨_, rfl⟩
          obtain ⟨mn, hmn⟩ : ∃ z, z = x.nd.mn := ⟨_, rfl⟩
          obtain ⟨mx, hmx⟩ : ∃ z, z = x.nd.mx := ⟨_, rfl⟩
          obtain ⟨md, hmd⟩ : ∃ z, z = x.nd.mode := ⟨_, rfl⟩
          rw [← hkd] at c0
          rw [← hgr] at c3
          rw [← hmn] at c4
          rw [← hmx] at c5
          rw [← hmd] at c6
          rw [← hkd, ← hgr, ← hmn, ← hmx, ← hmd] at hlit
          have hwk : IntKind.i64.wrap ((k : Nat) + 1 : Int) = (k : Nat) + 1 := by rw [IntKind.wrap_i64]; have := HN4.out; omega
          have HOK : Hid (okNd nn x.nd = (rkindN x.nd && (!(kd == 5 || kd == 8) || (decide (1 ≤ gr) && decide (gr ≤ (nn : Int)))))) := by show _ = _; unfold okNd; rw [← hkd, ← hgr]
          have HGO : Hid (okNd nn x.nd = true → ∀ j, j < k + 1 → okNd nn (gn xs j).nd = true) := fun h j hj => by
            by_cases hjk : j < k
            · exact HE.out j hjk
            · obtain rfl : j = k := by omega
              rw [← HXE.out]; exact h
          have HNO : Hid (okNd nn x.nd = false → rsoundN (nds xs) nm = false) := fun h => by rw [HSO.out, ← HN.out.2.2]; exact all_bad hmem h
          obtain ⟨wk, hwk'⟩ : ∃ W, W = wr.alloc (.cells #[.int .u8 kd, .slice x.ps ls x.cs, .slice x.pk lk x.ck, .int .i64 gr, .int .i64 mn, .int .i64 mx, .int .u8 md, .int .u8 x.nd.spot, .bool x.nd.neg] 28) := ⟨_, rfl⟩
          have hbk : Below wr.heap.size wr wk := by rw [hwk']; exact bl_alloc _ _
          have hXk : Bx wk wr.heap.size 28 #[.int .u8 kd, .slice x.ps ls x.cs, .slice x.pk lk x.ck, .int .i64 gr, .int .i64 mn, .int .i64 mx, .int .u8 md, .int .u8 x.nd.spot, .bool x.nd.neg] := by rw [hwk']; exact Bx.new _ _ _
          obtain ⟨a0, a1, a2, a3, a4, a5, a6, a7, a8⟩ := nine hXk
          rw [hwk'] at a0 a1 a2 a3 a4 a5 a6 a7 a8
          have HKD := Lib.hid (rkind_any x wk (hin.below hbk) hfx)
          rw [hlit] at HKD
          obtain ⟨kb, hkb⟩ : ∃ b : Bool, b = rkindN x.nd := ⟨_, rfl⟩
          rw [← hkb] at HKD HOK
          have HWK : Hid (wr.alloc (.cells #[.int .u8 kd, .slice x.ps ls x.cs, .slice x.pk lk x.ck, .int .i64 gr, .int .i64 mn, .int .i64 mx, .int .u8 md, .int .u8 x.nd.spot, .bool x.nd.neg] 28) = wk) := hwk'.symm
          have HXK := Lib.hid hXk
          have HBK : Hid (Below w3.heap.size w3 wk) := bl_trans HW.out hbk
          have HKW := Lib.hid hbk
          clear hx hls hlk hlit hkd hgr hmn hmx hmd hin hfx hmem hkb hwk' hbk hXk hkx
          go_wp2_with fail
          rw [HWK.out]
          refine (HKD.out).mono ?_
          rintro e w5 ⟨rfl, hb5⟩
          have hX5 := HXK.out.below hb5
          have z0 := hX5.cell (i := 0) rfl
          have z3 := hX5.cell (i := 3) rfl
          have HB5 := Lib.hid (bl_trans HBK.out hb5)
          have cT1 := (HT3.out.below HB5.out).cell (i := 1) rfl
          clear hb5 hX5 cT0 a0 a1 a2 a3 a4 a5 a6 a7 a8 c0 c1 c2 c3 c4 c5 c6 c7 c8
          cases kb with
          | false =>
            have HZ := Lib.hid (HNO.out (by rw [HOK.out]; rfl))
            go_wp2
            go_ret
            exact ⟨by rw [HZ.out]; rfl, HB3.out.trans (HB5.out.mono HB3.out.size)⟩
          | true =>
            by_cases h5 : kd = 5
            · have e5 : (kd == 5) = true := by simpa using h5
              have HK5 := Lib.hid h5
              clear h5
              by_cases hg1 : 1 ≤ gr
              · have g1 : decide (gr < 1) = false := by simp; omega
                by_cases hg2 : gr ≤ (nn : Int)
                · have g2 : decide ((nn : Int) < gr) = false := by simp; omega
                  have HY := Lib.hid (HGO.out (by rw [HOK.out]; simp [hg1, hg2]))
                  go_wp2
                  go_roundw
                  case rel => exact ⟨k + 1, by omega, by go_num, HY.out, HB5.out⟩
                  case measure => simp [intOf] <;> omega
                · have g2 : decide ((nn : Int) < gr) = true := by simp; omega
                  have HZ := Lib.hid (HNO.out (by rw [HOK.out]; simp [HK5.out, hg2]))
                  go_wp2
                  go_ret
                  exact ⟨by rw [HZ.out]; rfl, HB3.out.trans (HB5.out.mono HB3.out.size)⟩
              · have g1 : decide (gr < 1) = true := by simp; omega
                have HZ := Lib.hid (HNO.out (by rw [HOK.out]; simp [HK5.out, hg1]))
                go_wp2
                go_ret
                exact ⟨by rw [HZ.out]; rfl, HB3.out.trans (HB5.out.mono HB3.out.size)⟩
            · have e5 : (kd == 5) = false := by simpa using h5
              by_cases h8 : kd = 8
              · have e8 : (kd == 8) = true := by simpa using h8
                have HK8 := Lib.hid h8
                clear h8
                by_cases hg1 : 1 ≤ gr
                · have g1 : decide (gr < 1) = false := by simp; omega
                  by_cases hg2 : gr ≤ (nn : Int)
                  · have g2 : decide ((nn : Int) < gr) = false := by simp; omega
                    have HY := Lib.hid (HGO.out (by rw [HOK.out]; simp [hg1, hg2]))
                    go_wp2
                    go_roundw
                    case rel => exact ⟨k + 1, by omega, by go_num, HY.out, HB5.out⟩
                    case measure => simp [intOf] <;> omega
                  · have g2 : decide ((nn : Int) < gr) = true := by simp; omega
                    have HZ := Lib.hid (HNO.out (by rw [HOK.out]; simp [HK8.out, hg2]))
                    go_wp2
                    go_ret
                    exact ⟨by rw [HZ.out]; rfl, HB3.out.trans (HB5.out.mono HB3.out.size)⟩
                · have g1 : decide (gr < 1) = true := by simp; omega
                  have HZ := Lib.hid (HNO.out (by rw [HOK.out]; simp [HK8.out, hg1]))
                  go_wp2
                  go_ret
                  exact ⟨by rw [HZ.out]; rfl, HB3.out.trans (HB5.out.mono HB3.out.size)⟩
              · have e8 : (kd == 8) = false := by simpa using h8
                have HY := Lib.hid (HGO.out (by rw [HOK.out]; simp [h5, h8]))
                go_wp2
                go_roundw
                case rel => exact ⟨k + 1, by omega, by go_num, HY.out, HB5.out⟩
                case measure => simp [intOf] <;> omega
        · have hkI : (n : Int) ≤ k := by omega
          have HF : Hid (rsoundN (nds xs) nm = true) := by
            show _ = _
            rw [HSO.out, ← HN.out.2.2]
            exact all_of fun j hj => HE.out j (by have := HN.out.1; omega)
          go_wp2
          go_ret
          exact ⟨by rw [HF.out]; rfl, HB3.out.trans (HW.out.mono HB3.out.size)⟩
end Go.Proofs.YtjpccmiaimkmbaaGreat


namespace Go.Proofs.YtjpccmiaimkmbaaGreat
open Go.RowKit Tnr Tnt

def nevNd (d : Nd) : Bool := !(d.kind == 12 || d.kind == 13)
def endNd (d : Nd) : Bool := !(d.kind == 7) || (d.mn == 0 && (d.mx == -1 && !(d.mode == 3)))
def upB (B : List Int) : Bool := (List.range B.length).all fun i => gz B i == (i : Int) + 1
def rrightN (L : List Nd) (nm : List ByteArray) : Bool := rsoundN L nm && (decide (deepT L ≤ 60) && (L.all nevNd && ((begB L (L.length - 1)).length == nm.length && upB (begB L (L.length - 1)))))
def rspreadN (L : List Nd) (nm : List ByteArray) : Bool := rsoundN L nm && L.all endNd
theorem mnL_snoc {l : List Int} (h : l ≠ []) (x : Int) : mnL (l ++ [x]) = min (mnL l) x := by
  obtain ⟨a1, a2⟩ := mnL_spec (l ++ [x]) (by simp)
  obtain ⟨b1, b2⟩ := mnL_spec l h
  have c1 := a2 (mnL l) (List.mem_append_left _ b1)
  have c2 := a2 x (by simp)
  rcases List.mem_append.1 a1 with h1 | h1
  · have := b2 _ h1; omega
  · have := List.mem_singleton.1 h1; omega
theorem mxL_snoc {l : List Int} (h : l ≠ []) (x : Int) : mxL (l ++ [x]) = max (mxL l) x := by
  obtain ⟨a1, a2⟩ := mxL_spec (l ++ [x]) (by simp)
  obtain ⟨b1, b2⟩ := mxL_spec l h
  have c1 := a2 (mxL l) (List.mem_append_left _ b1)
  have c2 := a2 x (by simp)
  rcases List.mem_append.1 a1 with h1 | h1
  · have := b2 _ h1; omega
  · have := List.mem_singleton.1 h1; omega
theorem evN_app (ks : List Int) : ∀ (L M : List Nd) (k : Nat), evN ks k (L ++ M) = evN ks k L ++ evN ks (k + L.length) M
  | [], M, k => by simp [evN]
  | d :: L, M, k => by
    have h := evN_app ks L M (k + 1)
    rw [show k + 1 + L.length = k + (d :: L).length by simp; omega] at h
    show (if d.kind ∈ ks then (k, d) :: evN ks (k + 1) (L ++ M) else evN ks (k + 1) (L ++ M)) = (if d.kind ∈ ks then (k, d) :: evN ks (k + 1) L else evN ks (k + 1) L) ++ _
    by_cases hd : d.kind ∈ ks
    · rw [if_pos hd, if_pos hd, h]; rfl
    · rw [if_neg hd, if_neg hd, h]
theorem gr_snoc (L : List Nd) (d : Nd) : grN (L ++ [d]) = grN L ++ (if d.kind = 5 then [d.group] else []) := by
  unfold grN
  rw [evN_app, List.map_append]
  congr 1
  show List.map _ (if d.kind ∈ [5] then _ else _) = _
  by_cases hd : d.kind = 5
  · rw [if_pos (by simp [hd]), if_pos hd]; rfl
  · rw [if_neg (by simp [hd]), if_neg hd]; rfl
theorem nds_take6 {xs : List NV} {k : Nat} (h : k < xs.length) : (nds xs).take (k + 1) = (nds xs).take k ++ [(gn xs k).nd] := by
  unfold nds
  rw [← List.map_take, take_gn h, List.map_append, List.map_take]; rfl
set_option maxHeartbeats 6400000 in
set_option maxRecDepth 100000 in
theorem rright6_any (p : Option Addr) (n c : Nat) (xs : List NV) (pn : Option Addr) (nn cn : Nat) (nm : List ByteArray) (w : World) (hn : n = xs.length) (hnm : n ≤ 1000000000) (hp : SlN w p xs) (hf : Few xs) (hnn : nn = nm.length) (hX : SlX w pn nm) :
    Calls Tryz.prog 52 #[.agg #[.slice p n c, .slice pn nn cn]] w fun e w' => e = .returned (.bool (rrightN (nds xs) nm)) ∧ Below w.heap.size w w' := by
  obtain ⟨W1, hW1⟩ : ∃ W, W = w.alloc (.cells #[.slice p n c, .slice pn nn cn] 34) := ⟨_, rfl⟩
  have hb1 : Below w.heap.size w W1 := by rw [hW1]; exact bl_alloc _ _
  have hT : Bx W1 w.heap.size 34 #[.slice p n c, .slice pn nn cn] := by rw [hW1]; exact Bx.new _ _ _
  obtain ⟨b0, hb0⟩ : ∃ b, b = w.heap.size := ⟨_, rfl⟩
  rw [← hb0] at hT
  have HP := Lib.hid (hp.below hb1)
  have HX := Lib.hid (hX.below hb1)
  have HN := Lib.hid (And.intro hn (And.intro hf hnn))
  have HT := Lib.hid hT
  have HB1 := Lib.hid hb1
  have HNM := Lib.hid hnm
  have HW1 := Lib.hid (And.intro hW1 hb0)
  have cT0 : W1.cell? ⟨b0, 0, none⟩ = some (.slice p n c) := hT.cell rfl
  have cT1 : W1.cell? ⟨b0, 1, none⟩ = some (.slice pn nn cn) := hT.cell rfl
  have HSD := Lib.hid (rsound_any p n c xs pn nn cn nm W1 hn hnm (hp.below hb1) hf hnn (hX.below hb1))
  clear hn hnm hp hf hnn hX hb1 hT hW1 hb0
  obtain ⟨sb, hsb⟩ : ∃ b : Bool, b = rsoundN (nds xs) nm := ⟨_, rfl⟩
  have HSB := Lib.hid hsb
  rw [← hsb] at HSD
  clear hsb
  go_enter Tryz.func52, Tryz.ntmps52
  go_wp2_with fail
  rw [← HW1.out.2, show w.alloc (.cells #[.slice p n c, .slice pn nn cn] 34) = W1 from HW1.out.1.symm]
  go_wp2_with fail
  refine (HSD.out).mono ?_
  rintro e w2 ⟨rfl, hb2⟩
  have HB2 := Lib.hid (HB1.out.trans (hb2.mono HB1.out.size))
  have hT2 := HT.out.below hb2
  have HT2 := Lib.hid hT2
  have HP2 := Lib.hid (HP.out.below hb2)
  clear hb2 cT0 cT1
  have cT0 : w2.cell? ⟨b0, 0, none⟩ = some (.slice p n c) := hT2.cell rfl
  have cT1 : w2.cell? ⟨b0, 1, none⟩ = some (.slice pn nn cn) := hT2.cell rfl
  clear hT2
  cases sb with
  | false =>
    have HF : Hid (rrightN (nds xs) nm = false) := by show _ = _; unfold rrightN; rw [← HSB.out]; rfl
    go_wp2
    go_ret
    exact ⟨by rw [HF.out]; rfl, HB2.out⟩
  | true =>
    obtain ⟨lo, hlo⟩ : ∃ l, ordT (nds xs) = some l := by
      have h := HSB.out
      unfold rsoundN at h
      cases ho : ordT (nds xs) with
      | none => rw [ho] at h; cases h
      | some l => exact ⟨l, rfl⟩
    have HO := Lib.hid hlo
    have HN4 : Hid (n ≤ 4000) := by
      have := (ordT_len hlo).2
      rw [nds_length, ← HN.out.1] at this
      exact this
    have HN1 : Hid (1 ≤ n) := by
      have := (ordT_len hlo).1
      rw [nds_length, ← HN.out.1] at this
      exact this
    clear hlo
    obtain ⟨dp, hdp⟩ : ∃ d, d = deepT (nds xs) := ⟨_, rfl⟩
    have HDD := Lib.hid hdp
    have hd := rdeep_any p n c xs (.slice pn nn cn) w2 HN.out.1 HNM.out HP2.out HN.out.2.1
    rw [← hdp] at hd
    have HDP := Lib.hid hd
    clear hdp hd
    go_wp2_with fail
    refine (HDP.out).mono ?_
    rintro e w3 ⟨rfl, hb3⟩
    have hT3 := HT2.out.below hb3
    have HB3 := Lib.hid (HB2.out.trans (hb3.mono HB2.out.size))
    have HT3 := Lib.hid hT3
    have HPL := Lib.hid (HP2.out.below hb3)
    clear hb3 cT0 cT1
    have cT0 : w3.cell? ⟨b0, 0, none⟩ = some (.slice p n c) := hT3.cell rfl
    have cT1 : w3.cell? ⟨b0, 1, none⟩ = some (.slice pn nn cn) := hT3.cell rfl
    clear hT3
    by_cases h60 : 60 < dp
    · have e60 : decide ((60 : Int) < dp) = true := by simp; omega
      have HF : Hid (rrightN (nds xs) nm = false) := by show _ = _; unfold rrightN; rw [← HSB.out, ← HDD.out, decide_eq_false (show ¬ dp ≤ 60 by omega)]; rfl
      clear h60
      go_wp2
      go_ret
      exact ⟨by rw [HF.out]; rfl, HB3.out⟩
    · have e60 : decide ((60 : Int) < dp) = false := by simp; omega
      have HRR : Hid (rrightN (nds xs) nm = ((nds xs).all nevNd && ((begB (nds xs) (n - 1)).length == nm.length && upB (begB (nds xs) (n - 1))))) := by show _ = _; unfold rrightN; rw [← HSB.out, ← HDD.out, decide_eq_true (show dp ≤ 60 by omega), nds_length, ← HN.out.1]; rfl
      clear h60
      go_wp2
      go_loopw [3] (fun iv wr => ∃ k : Nat, k ≤ n ∧ iv = .int .i64 (k : Nat) ∧ Hid (∀ j, j < k → nevNd (gn xs j).nd = true) ∧ wr = w3) (fun iv _ => n - (intOf iv).toNat)
      case atStart => exact ⟨0, Nat.zero_le _, rfl, fun j hj => absurd hj (by omega), by first | rfl | trivial⟩
      case round =>
        obtain ⟨k, hk, rfl, HE, hwr⟩ := hrel
        rename World => wr
        subst hwr
        have HW : Hid (Below wr.heap.size wr wr) := Below.refl _ _
        by_cases hkn : k < n
        · skip
          have hkI : (k : Int) < n := by omega
          have hkx : k < xs.length := by have := HN.out.1; omega
          obtain ⟨b, o, rfl, hcells, hin⟩ := (HPL.out.below HW.out).at hkx
          have hfx := HN.out.2.1 _ (gn_mem hkx)
          have hmem := gn_in hkx
          obtain ⟨x, hx⟩ : ∃ x, x = gn xs k := ⟨_, rfl⟩
          have HXE := Lib.hid hx
          rw [← hx] at hcells hin hfx hmem
          obtain ⟨ls, lk, hls, hlk, hlit⟩ := node_lit2 x
          obtain ⟨c0, c1, c2, c3, c4, c5, c6, c7, c8⟩ := hcells
          unfold NodeLit at hlit
          rw [← hls] at c1
          rw [← hlk] at c2
          obtain ⟨kd, hkd⟩ : ∃ z, z = x.nd.kind := ⟨_, rfl⟩
          obtain ⟨gr, hgr⟩ : ∃ z, z = x.nd.group := ⟨_, rfl⟩
          obtain ⟨mn, hmn⟩ : ∃ z, z = x.nd.mn := ⟨_, rfl⟩
          obtain ⟨mx, hmx⟩ : ∃ z, z = x.nd.mx := ⟨_, rfl⟩
          obtain ⟨md, hmd⟩ : ∃ z, z = x.nd.mode := ⟨_, rfl⟩
          rw [← hkd] at c0
          rw [← hgr] at c3
          rw [← hmn] at c4
          rw [← hmx] at c5
          rw [← hmd] at c6
          rw [← hkd, ← hgr, ← hmn, ← hmx, ← hmd] at hlit
          have hwk : IntKind.i64.wrap ((k : Nat) + 1 : Int) = (k : Nat) + 1 := by rw [IntKind.wrap_i64]; have := HN4.out; omega
          have HOK : Hid (nevNd x.nd = !(kd == 12 || kd == 13)) := by show _ = _; unfold nevNd; rw [← hkd]
          have HGO : Hid (nevNd x.nd = true → ∀ j, j < k + 1 → nevNd (gn xs j).nd = true) := fun h j hj => by
            by_cases hjk : j < k
            · exact HE.out j hjk
            · obtain rfl : j = k := by omega
              rw [← HXE.out]; exact h
          have HNO : Hid (nevNd x.nd = false → rrightN (nds xs) nm = false) := fun h => by rw [HRR.out, all_bad hmem h]; rfl
          clear hx hls hlk hlit hkd hgr hmn hmx hmd hin hfx hmem hkx
          by_cases h12 : kd = 12
          · have e12 : (kd == 12) = true := by simpa using h12
            have HKE := Lib.hid h12
            clear h12
            have HZ := Lib.hid (HNO.out (by rw [HOK.out]; simp [HKE.out]))
            go_wp2
            go_ret
            exact ⟨by rw [HZ.out]; rfl, HB3.out⟩
          · have e12 : (kd == 12) = false := by simpa using h12
            by_cases h13 : kd = 13
            · have e13 : (kd == 13) = true := by simpa using h13
              have HKE := Lib.hid h13
              clear h13
              have HZ := Lib.hid (HNO.out (by rw [HOK.out]; simp [HKE.out]))
              go_wp2
              go_ret
              exact ⟨by rw [HZ.out]; rfl, HB3.out⟩
            · have e13 : (kd == 13) = false := by simpa using h13
              have HY := Lib.hid (HGO.out (by rw [HOK.out]; simp [h12, h13]))
              go_wp2
              go_roundw
              case rel => exact ⟨k + 1, by omega, by go_num, HY.out, by first | rfl | trivial⟩
              case measure => simp [intOf] <;> omega
        · have hkI : (n : Int) ≤ k := by omega
          obtain ⟨j, hj⟩ : ∃ j, j = n - 1 := ⟨_, rfl⟩
          have hjI : (n : Int) - 1 = (j : Nat) := by have := HN1.out; omega
          have HALL : Hid ((nds xs).all nevNd = true) := all_of fun j hj => HE.out j (by have := HN.out.1; omega)
          have HBG := Lib.hid (rbegun_any p n c xs (.slice pn nn cn) lo HN.out.1 HN.out.2.1 HO.out j (by have := HN1.out; omega) wr HPL.out)
          have HRR2 : Hid (rrightN (nds xs) nm = ((begB (nds xs) j).length == nm.length && upB (begB (nds xs) j))) := by show _ = _; rw [HRR.out, HALL.out, ← hj]; rfl
          have hwj : IntKind.i64.wrap (j : Int) = (j : Int) := by rw [IntKind.wrap_i64]; have := HN4.out; omega
          have HJB : Hid ((begB (nds xs) j).length ≤ 4000) := by
            show _ ≤ _
            obtain ⟨hok, _, _, _⟩ := ordT_ok HO.out
            have h1 := beg_len hok j (by rw [nds_length, ← HN.out.1]; have := HN1.out; omega)
            have := HN4.out
            omega
          clear hj
          go_wp2_with fail
          refine (HBG.out).mono ?_
          rintro e w4 ⟨q, m, d, rfl, hm, ho4, hb4⟩
          have cT1 := (HT3.out.below hb4).cell (i := 1) rfl
          have HB4 := Lib.hid (HB3.out.trans (hb4.mono HB3.out.size))
          obtain ⟨q', d', e', _, _, _, hs4⟩ := ownZ_form ho4
          rw [← hm] at e'
          obtain ⟨rfl, rfl⟩ : q = q' ∧ d = d' := by simpa using e'
          obtain ⟨B, hB⟩ : ∃ B, B = begB (nds xs) j := ⟨_, rfl⟩
          rw [← hB] at hm hs4 HRR2 HJB
          have HS4 := Lib.hid hs4
          have HM := Lib.hid hm
          have hmI : (m : Int) ≤ 4000 := by have := HJB.out; omega
          clear hb4 ho4 e' hs4 hB
          by_cases hmn : m = nn
          · have e1 : ((m : Int) != (nn : Int)) = false := by simp; omega
            have HR3 : Hid (rrightN (nds xs) nm = upB B) := by show _ = _; rw [HRR2.out, ← hm, ← HN.out.2.2, hmn]; simp
            clear hmn hm
            go_wp2
            go_loopw [5] (fun iv wq => ∃ i : Nat, i ≤ m ∧ iv = .int .i64 (i : Nat) ∧ Hid (∀ t, t < i → gz B t = (t : Int) + 1) ∧ wq = w4) (fun iv _ => m - (intOf iv).toNat)
            case atStart => exact ⟨0, Nat.zero_le _, rfl, fun t ht => absurd ht (by omega), by first | rfl | trivial⟩
            case round =>
              obtain ⟨i, hi, rfl, HI, hwq⟩ := hrel
              rename World => wq
              subst hwq
              by_cases him : i < m
              · have hiI : (i : Int) < m := by omega
                have hix : i < B.length := by have := HM.out; omega
                obtain ⟨b2, o2, rfl, c2'⟩ := slz_at HS4.out hix
                obtain ⟨v, hv⟩ : ∃ v, v = gz B i := ⟨_, rfl⟩
                rw [← hv] at c2'
                have hwi : IntKind.i64.wrap ((i : Nat) + 1 : Int) = (i : Nat) + 1 := by rw [IntKind.wrap_i64]; omega
                have HGO : Hid (v = (i : Int) + 1 → ∀ t, t < i + 1 → gz B t = (t : Int) + 1) := fun h t ht => by
                  by_cases hti : t < i
                  · exact HI.out t hti
                  · obtain rfl : t = i := by omega
                    rw [← hv]; exact h
                have HNO : Hid (v ≠ (i : Int) + 1 → rrightN (nds xs) nm = false) := fun h => by
                  rw [HR3.out]
                  unfold upB
                  rw [List.all_eq_false]
                  exact ⟨i, List.mem_range.2 hix, by rw [← hv]; simpa using h⟩
                clear hv hix
                by_cases hvi : v = (i : Int) + 1
                · have e2 : (v != (i : Int) + 1) = false := by simp [hvi]
                  have HY := Lib.hid (HGO.out hvi)
                  clear hvi
                  go_wp2
                  go_roundw
                  case rel => exact ⟨i + 1, by omega, by go_num, HY.out, by first | rfl | trivial⟩
                  case measure => simp [intOf] <;> omega
                · have e2 : (v != (i : Int) + 1) = true := by simpa using hvi
                  have HZ := Lib.hid (HNO.out hvi)
                  clear hvi
                  go_wp2
                  go_ret
                  exact ⟨by rw [HZ.out]; rfl, HB4.out⟩
              · have hiI : (m : Int) ≤ i := by omega
                have HF : Hid (rrightN (nds xs) nm = true) := by
                  show _ = _
                  rw [HR3.out]
                  unfold upB
                  rw [List.all_eq_true]
                  intro t ht
                  have := HI.out t (by have := HM.out; have := List.mem_range.1 ht; omega)
                  simpa using this
                go_wp2
                go_ret
                exact ⟨by rw [HF.out]; rfl, HB4.out⟩
          · have e1 : ((m : Int) != (nn : Int)) = true := by simp; omega
            have HF : Hid (rrightN (nds xs) nm = false) := by show _ = _; rw [HRR2.out, ← hm, ← HN.out.2.2]; simp [hmn]
            clear hmn hm
            go_wp2
            go_ret
            exact ⟨by rw [HF.out]; rfl, HB4.out⟩
set_option maxHeartbeats 6400000 in
set_option maxRecDepth 100000 in
theorem rspread6_any (p : Option Addr) (n c : Nat) (xs : List NV) (pn : Option Addr) (nn cn : Nat) (nm : List ByteArray) (w : World) (hn : n = xs.length) (hnm : n ≤ 1000000000) (hp : SlN w p xs) (hf : Few xs) (hnn : nn = nm.length) (hX : SlX w pn nm) :
    Calls Tryz.prog 53 #[.agg #[.slice p n c, .slice pn nn cn]] w fun e w' => e = .returned (.bool (rspreadN (nds xs) nm)) ∧ Below w.heap.size w w' := by
  obtain ⟨W1, hW1⟩ : ∃ W, W = w.alloc (.cells #[.slice p n c, .slice pn nn cn] 34) := ⟨_, rfl⟩
  have hb1 : Below w.heap.size w W1 := by rw [hW1]; exact bl_alloc _ _
  have hT : Bx W1 w.heap.size 34 #[.slice p n c, .slice pn nn cn] := by rw [hW1]; exact Bx.new _ _ _
  obtain ⟨b0, hb0⟩ : ∃ b, b = w.heap.size := ⟨_, rfl⟩
  rw [← hb0] at hT
  have HP := Lib.hid (hp.below hb1)
  have HX := Lib.hid (hX.below hb1)
  have HN := Lib.hid (And.intro hn (And.intro hf hnn))
  have HT := Lib.hid hT
  have HB1 := Lib.hid hb1
  have HNM := Lib.hid hnm
  have HW1 := Lib.hid (And.intro hW1 hb0)
  have cT0 : W1.cell? ⟨b0, 0, none⟩ = some (.slice p n c) := hT.cell rfl
  have cT1 : W1.cell? ⟨b0, 1, none⟩ = some (.slice pn nn cn) := hT.cell rfl
  have HSD := Lib.hid (rsound_any p n c xs pn nn cn nm W1 hn hnm (hp.below hb1) hf hnn (hX.below hb1))
  clear hn hnm hp hf hnn hX hb1 hT hW1 hb0
  obtain ⟨sb, hsb⟩ : ∃ b : Bool, b = rsoundN (nds xs) nm := ⟨_, rfl⟩
  have HSB := Lib.hid hsb
  rw [← hsb] at HSD
  clear hsb
  go_enter Tryz.func53, Tryz.ntmps53
  go_wp2_with fail
  rw [← HW1.out.2, show w.alloc (.cells #[.slice p n c, .slice pn nn cn] 34) = W1 from HW1.out.1.symm]
  go_wp2_with fail
  refine (HSD.out).mono ?_
  rintro e w2 ⟨rfl, hb2⟩
  have HB2 := Lib.hid (HB1.out.trans (hb2.mono HB1.out.size))
  have hT2 := HT.out.below hb2
  have HT2 := Lib.hid hT2
  have HP2 := Lib.hid (HP.out.below hb2)
  clear hb2 cT0 cT1
  have cT0 : w2.cell? ⟨b0, 0, none⟩ = some (.slice p n c) := hT2.cell rfl
  have cT1 : w2.cell? ⟨b0, 1, none⟩ = some (.slice pn nn cn) := hT2.cell rfl
  clear hT2
  cases sb with
  | false =>
    have HF : Hid (rspreadN (nds xs) nm = false) := by show _ = _; unfold rspreadN; rw [← HSB.out]; rfl
    go_wp2
    go_ret
    exact ⟨by rw [HF.out]; rfl, HB2.out⟩
  | true =>
    obtain ⟨lo, hlo⟩ : ∃ l, ordT (nds xs) = some l := by
      have h := HSB.out
      unfold rsoundN at h
      cases ho : ordT (nds xs) with
      | none => rw [ho] at h; cases h
      | some l => exact ⟨l, rfl⟩
    have HO := Lib.hid hlo
    have HN4 : Hid (n ≤ 4000) := by
      have := (ordT_len hlo).2
      rw [nds_length, ← HN.out.1] at this
      exact this
    have HN1 : Hid (1 ≤ n) := by
      have := (ordT_len hlo).1
      rw [nds_length, ← HN.out.1] at this
      exact this
    clear hlo
    have HRR : Hid (rspreadN (nds xs) nm = (nds xs).all endNd) := by show _ = _; unfold rspreadN; rw [← HSB.out]; rfl
    have HPL := HP2
    clear cT0 cT1
    go_wp2
    go_loopw [3] (fun iv wr => ∃ k : Nat, k ≤ n ∧ iv = .int .i64 (k : Nat) ∧ Hid (∀ j, j < k → endNd (gn xs j).nd = true) ∧ Hid (Below w2.heap.size w2 wr)) (fun iv _ => n - (intOf iv).toNat)
    case atStart => exact ⟨0, Nat.zero_le _, rfl, fun j hj => absurd hj (by omega), Below.refl _ _⟩
    case round =>
      obtain ⟨k, hk, rfl, HE, HW⟩ := hrel
      rename World => wr
      have hTr := HT2.out.below HW.out
      have cT0 : wr.cell? ⟨b0, 0, none⟩ = some (.slice p n c) := hTr.cell rfl
      clear hTr
      by_cases hkn : k < n
      · skip
        have hkI : (k : Int) < n := by omega
        have hkx : k < xs.length := by have := HN.out.1; omega
        obtain ⟨b, o, rfl, hcells, hin⟩ := (HPL.out.below HW.out).at hkx
        have hfx := HN.out.2.1 _ (gn_mem hkx)
        have hmem := gn_in hkx
        obtain ⟨x, hx⟩ : ∃ x, x = gn xs k := ⟨_, rfl⟩
        have HXE := Lib.hid hx
        rw [← hx] at hcells hin hfx hmem
        obtain ⟨ls, lk, hls, hlk, hlit⟩ := node_lit2 x
        obtain ⟨c0, c1, c2, c3, c4, c5, c6, c7, c8⟩ := hcells
        unfold NodeLit at hlit
        rw [← hls] at c1
        rw [← hlk] at c2
        obtain ⟨kd, hkd⟩ : ∃ z, z = x.nd.kind := ⟨_, rfl⟩
        obtain ⟨gr, hgr⟩ : ∃ z, z = x.nd.group := ⟨_, rfl⟩
        obtain ⟨mn, hmn⟩ : ∃ z, z = x.nd.mn := ⟨_, rfl⟩
        obtain ⟨mx, hmx⟩ : ∃ z, z = x.nd.mx := ⟨_, rfl⟩
        obtain ⟨md, hmd⟩ : ∃ z, z = x.nd.mode := ⟨_, rfl⟩
        rw [← hkd] at c0
        rw [← hgr] at c3
        rw [← hmn] at c4
        rw [← hmx] at c5
        rw [← hmd] at c6
        rw [← hkd, ← hgr, ← hmn, ← hmx, ← hmd] at hlit
        have hwk : IntKind.i64.wrap ((k : Nat) + 1 : Int) = (k : Nat) + 1 := by rw [IntKind.wrap_i64]; have := HN4.out; omega
        have HOK : Hid (endNd x.nd = (!(kd == 7) || (mn == 0 && (mx == -1 && !(md == 3))))) := by show _ = _; unfold endNd; rw [← hkd, ← hmn, ← hmx, ← hmd]
        have HGO : Hid (endNd x.nd = true → ∀ j, j < k + 1 → endNd (gn xs j).nd = true) := fun h j hj => by
          by_cases hjk : j < k
          · exact HE.out j hjk
          · obtain rfl : j = k := by omega
            rw [← HXE.out]; exact h
        have HNO : Hid (endNd x.nd = false → rspreadN (nds xs) nm = false) := fun h => by rw [HRR.out, all_bad hmem h]
        have hXk := Bx.new wr 28 #[.int .u8 kd, .slice x.ps ls x.cs, .slice x.pk lk x.ck, .int .i64 gr, .int .i64 mn, .int .i64 mx, .int .u8 md, .int .u8 x.nd.spot, .bool x.nd.neg]
        obtain ⟨a0, a1, a2, a3, a4, a5, a6, a7, a8⟩ := nine hXk
        have HBK : Hid (Below w2.heap.size w2 (wr.alloc (.cells #[.int .u8 kd, .slice x.ps ls x.cs, .slice x.pk lk x.ck, .int .i64 gr, .int .i64 mn, .int .i64 mx, .int .u8 md, .int .u8 x.nd.spot, .bool x.nd.neg] 28))) := bl_trans HW.out (bl_alloc _ _)
        clear hx hls hlk hlit hkd hgr hmn hmx hmd hin hfx hmem hXk hkx
        by_cases h7 : kd = 7
        · have e7 : (kd == 7) = true := by simpa using h7
          have HK7 := Lib.hid h7
          clear h7
          by_cases hm : mn = 0
          · have em : (mn != 0) = false := by simp [hm]
            have HHM := Lib.hid hm
            clear hm
            by_cases hx : mx = -1
            · have ex : (mx != -1) = false := by simp [hx]
              have HHX := Lib.hid hx
              clear hx
              by_cases h3 : md = 3
              · have e3 : (md == 3) = true := by simpa using h3
                have HH3 := Lib.hid h3
                clear h3
                have HZ := Lib.hid (HNO.out (by rw [HOK.out]; simp [HK7.out, HH3.out]))
                go_wp2
                go_ret
                exact ⟨by rw [HZ.out]; rfl, HB2.out.trans (HBK.out.mono HB2.out.size)⟩
              · have e3 : (md == 3) = false := by simpa using h3
                have HY := Lib.hid (HGO.out (by rw [HOK.out]; simp [HHM.out, HHX.out, h3]))
                go_wp2
                go_roundw
                case rel => exact ⟨k + 1, by omega, by go_num, HY.out, HBK.out⟩
                case measure => simp [intOf] <;> omega
            · have ex : (mx != -1) = true := by simpa using hx
              have HZ := Lib.hid (HNO.out (by rw [HOK.out]; simp [HK7.out, hx]))
              go_wp2
              go_ret
              exact ⟨by rw [HZ.out]; rfl, HB2.out.trans (HBK.out.mono HB2.out.size)⟩
          · have em : (mn != 0) = true := by simpa using hm
            have HZ := Lib.hid (HNO.out (by rw [HOK.out]; simp [HK7.out, hm]))
            go_wp2
            go_ret
            exact ⟨by rw [HZ.out]; rfl, HB2.out.trans (HBK.out.mono HB2.out.size)⟩
        · have e7 : (kd == 7) = false := by simpa using h7
          have HY := Lib.hid (HGO.out (by rw [HOK.out]; simp [h7]))
          go_wp2
          go_roundw
          case rel => exact ⟨k + 1, by omega, by go_num, HY.out, HBK.out⟩
          case measure => simp [intOf] <;> omega
      · have hkI : (n : Int) ≤ k := by omega
        have HF : Hid (rspreadN (nds xs) nm = true) := by
          show _ = _
          rw [HRR.out]
          exact all_of fun j hj => HE.out j (by have := HN.out.1; omega)
        go_wp2
        go_ret
        exact ⟨by rw [HF.out]; rfl, HB2.out.trans (HW.out.mono HB2.out.size)⟩
set_option maxHeartbeats 6400000 in
set_option maxRecDepth 100000 in
theorem rgroups_any (p : Option Addr) (n c : Nat) (xs : List NV) (names : Value) (w : World) (hn : n = xs.length) (hnm : n ≤ 1000000) (hp : SlN w p xs) :
    Calls Tryz.prog 55 #[.agg #[.slice p n c, names]] w fun e w' => e = .returned (.tuple #[.int .i64 (mnL (grN (nds xs))), .int .i64 (mxL (grN (nds xs)))]) ∧ Below w.heap.size w w' := by
  obtain ⟨W1, hW1⟩ : ∃ W, W = w.alloc (.cells #[.slice p n c, names] 34) := ⟨_, rfl⟩
  have hb1 : Below w.heap.size w W1 := by rw [hW1]; exact bl_alloc _ _
  have hT : Bx W1 w.heap.size 34 #[.slice p n c, names] := by rw [hW1]; exact Bx.new _ _ _
  obtain ⟨b0, hb0⟩ : ∃ b, b = w.heap.size := ⟨_, rfl⟩
  rw [← hb0] at hT
  have cT0 : W1.cell? ⟨b0, 0, none⟩ = some (.slice p n c) := hT.cell rfl
  have HP := Lib.hid (hp.below hb1)
  have HN := Lib.hid hn
  have HB1 := Lib.hid hb1
  have HRAW : Hid (w.alloc (.cells #[.slice p n c, names] 34) = W1 ∧ w.heap.size = b0) := ⟨hW1.symm, hb0.symm⟩
  have hnI : (n : Int) ≤ 1000000 := by omega
  clear hn hnm hp hb1 hT hW1 hb0
  go_enter Tryz.func55, Tryz.ntmps55
  go_upto_region 3 with fail
  rw [HRAW.out.1, HRAW.out.2]
  go_wp2
  go_loopw [4, 5, 6, 7] (fun fv tv bv iv wr => ∃ (k : Nat) (f t : Int) (fb : Bool), k ≤ n ∧ iv = .int .i64 (k : Nat) ∧ fv = .int .i64 f ∧ tv = .int .i64 t ∧ bv = .bool fb ∧ Hid (f = mnL (grN ((nds xs).take k)) ∧ t = mxL (grN ((nds xs).take k)) ∧ fb = (grN ((nds xs).take k)).isEmpty) ∧ wr = W1) (fun _ _ _ iv _ => n - (intOf iv).toNat)
  case atStart => exact ⟨0, 0, 0, true, Nat.zero_le _, rfl, rfl, rfl, rfl, ⟨rfl, rfl, rfl⟩, by first | rfl | trivial⟩
  case round =>
    obtain ⟨k, f, t, fb, hk, rfl, rfl, rfl, rfl, HE, hwr⟩ := hrel
    rename World => wr
    subst hwr
    by_cases hkn : k < n
    · have hkI : (k : Int) < n := by omega
      have hkx : k < xs.length := by have := HN.out; omega
      obtain ⟨b, o, rfl, hcells, _⟩ := HP.out.at hkx
      have hsn := gr_snoc ((nds xs).take k) (gn xs k).nd
      rw [← nds_take6 hkx] at hsn
      obtain ⟨x, hx⟩ : ∃ x, x = gn xs k := ⟨_, rfl⟩
      rw [← hx] at hcells hsn
      obtain ⟨c0, _, _, c3, _, _, _, _, _⟩ := hcells
      obtain ⟨kd, hkd⟩ : ∃ z, z = x.nd.kind := ⟨_, rfl⟩
      obtain ⟨g, hg⟩ : ∃ z, z = x.nd.group := ⟨_, rfl⟩
      rw [← hkd] at c0 hsn
      rw [← hg] at c3 hsn
      have HSN := Lib.hid hsn
      have hwk : IntKind.i64.wrap ((k : Nat) + 1 : Int) = (k : Nat) + 1 := by rw [IntKind.wrap_i64]; omega
      clear hx hkd hg hsn hkx
      by_cases h5 : kd = 5
      · have e5 : (kd != 5) = false := by simp [h5]
        have HS5 : Hid (grN ((nds xs).take (k + 1)) = grN ((nds xs).take k) ++ [g]) := by show _ = _; rw [HSN.out, if_pos h5]
        clear h5 HSN
        cases fb with
        | true =>
          have HEM : Hid (grN ((nds xs).take k) = []) := by show _ = _; have := HE.out.2.2; simpa using this.symm
          have HNX : Hid (g = mnL (grN ((nds xs).take (k + 1))) ∧ g = mxL (grN ((nds xs).take (k + 1))) ∧ false = (grN ((nds xs).take (k + 1))).isEmpty) := by
            show _ ∧ _ ∧ _
            rw [HS5.out, HEM.out]; exact ⟨rfl, rfl, rfl⟩
          go_wp2
          go_roundw
          case rel => exact ⟨k + 1, g, g, false, by omega, by go_num, rfl, rfl, rfl, HNX.out, by first | rfl | trivial⟩
          case measure => simp [intOf] <;> omega
        | false =>
          have HNE : Hid (grN ((nds xs).take k) ≠ []) := fun h => by have := HE.out.2.2; rw [h] at this; cases this
          have HNX : Hid (∀ f' t', f' = min f g → t' = max t g → f' = mnL (grN ((nds xs).take (k + 1))) ∧ t' = mxL (grN ((nds xs).take (k + 1))) ∧ false = (grN ((nds xs).take (k + 1))).isEmpty) := fun f' t' h1 h2 => by
            rw [HS5.out, mnL_snoc HNE.out, mxL_snoc HNE.out, ← HE.out.1, ← HE.out.2.1]; exact ⟨h1, h2, by simp⟩
          by_cases h1 : g < f
          · have q1 : decide (g < f) = true := decide_eq_true h1
            by_cases h2 : t < g
            · have q2 : decide (t < g) = true := decide_eq_true h2
              have HY := Lib.hid (HNX.out g g (by omega) (by omega))
              go_wp2
              go_roundw
              case rel => exact ⟨k + 1, g, g, false, by omega, by go_num, rfl, rfl, rfl, HY.out, by first | rfl | trivial⟩
              case measure => simp [intOf] <;> omega
            · have q2 : decide (t < g) = false := decide_eq_false h2
              have HY := Lib.hid (HNX.out g t (by omega) (by omega))
              go_wp2
              go_roundw
              case rel => exact ⟨k + 1, g, t, false, by omega, by go_num, rfl, rfl, rfl, HY.out, by first | rfl | trivial⟩
              case measure => simp [intOf] <;> omega
          · have q1 : decide (g < f) = false := decide_eq_false h1
            by_cases h2 : t < g
            · have q2 : decide (t < g) = true := decide_eq_true h2
              have HY := Lib.hid (HNX.out f g (by omega) (by omega))
              go_wp2
              go_roundw
              case rel => exact ⟨k + 1, f, g, false, by omega, by go_num, rfl, rfl, rfl, HY.out, by first | rfl | trivial⟩
              case measure => simp [intOf] <;> omega
            · have q2 : decide (t < g) = false := decide_eq_false h2
              have HY := Lib.hid (HNX.out f t (by omega) (by omega))
              go_wp2
              go_roundw
              case rel => exact ⟨k + 1, f, t, false, by omega, by go_num, rfl, rfl, rfl, HY.out, by first | rfl | trivial⟩
              case measure => simp [intOf] <;> omega
      · have e5 : (kd != 5) = true := by simpa using h5
        have HS5 : Hid (grN ((nds xs).take (k + 1)) = grN ((nds xs).take k)) := by show _ = _; rw [HSN.out, if_neg h5, List.append_nil]
        clear h5 HSN
        have HY : Hid (f = mnL (grN ((nds xs).take (k + 1))) ∧ t = mxL (grN ((nds xs).take (k + 1))) ∧ fb = (grN ((nds xs).take (k + 1))).isEmpty) := by show _ ∧ _ ∧ _; rw [HS5.out]; exact HE.out
        go_wp2
        go_roundw
        case rel => exact ⟨k + 1, f, t, fb, by omega, by go_num, rfl, rfl, rfl, HY.out, by first | rfl | trivial⟩
        case measure => simp [intOf] <;> omega
    · have hkI : (n : Int) ≤ k := by omega
      have HF : Hid (f = mnL (grN (nds xs)) ∧ t = mxL (grN (nds xs))) := by
        have h := HE.out
        rw [List.take_of_length_le (by rw [nds_length, ← HN.out]; omega)] at h
        exact ⟨h.1, h.2.1⟩
      go_wp2
      refine bodyPost_ret (v := .tuple #[.int .i64 f, .int .i64 t]) (by simp [results, Tryz.results55, go_sem]) rfl ⟨by rw [← HF.out.1, ← HF.out.2], HB1.out⟩
end Go.Proofs.YtjpccmiaimkmbaaGreat

