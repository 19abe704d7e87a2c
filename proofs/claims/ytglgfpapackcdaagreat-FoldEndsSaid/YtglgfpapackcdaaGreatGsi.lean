/- The document's Prop and Canon; how great rows of sets are. -/
/- The walk of KeptRangeRows. -/
/- FoldTells: what its parts tell, in one form for both sides. -/
import Derived.Test.YtglgfpapackcdaaGreatGrj
import Derived.Test.YtglgfpapackcdaaGreatRzc
import Derived.Test.YtglgfpapackcdaaGreatGsg
import Derived.Test.YtglgfpapackcdaaGreatGo

namespace Go.Proofs.YtglgfpapackcdaaGreat
open Go.RowKit Tnr

set_option maxHeartbeats 1600000 in
set_option maxRecDepth 100000 in
theorem rcanon_any (pf pp : Option Addr) (cf cp n m : Nat) (F : List R) (xs : List PV) (c : Int) (t : Bool) (w : World) (ht : t = true ↔ TR F xs) (h : Tab w pf n pp m F xs) (hpn : ∀ x ∈ xs, x.1.size ≤ 1000000000) :
    Calls Tryz.prog 20 #[.agg #[.slice pf n cf, .slice pp m cp], .int .i64 c] w fun e w' => e = .returned (.int .i64 (canonF F xs c)) ∧ Below w.heap.size w w' := by
  obtain ⟨w0, hw0⟩ : ∃ W, W = w.alloc (.cells #[.slice pf n cf, .slice pp m cp] 30) := ⟨_, rfl⟩
  have hb0 : Below w.heap.size w w0 := by rw [hw0]; exact bl_alloc _ _
  have hc0 : w0.cell? ⟨w.heap.size, 0, none⟩ = some (.slice pf n cf) := by rw [hw0, World.cell?_alloc_at _ _ _ _ rfl]; rfl
  have hc1 : w0.cell? ⟨w.heap.size, 1, none⟩ = some (.slice pp m cp) := by rw [hw0, World.cell?_alloc_at _ _ _ _ rfl]; rfl
  have h0 := h.below hb0
  have HRT := Lib.hid (rright_t pf pp cf cp n m F xs t w0 ht h0 hpn)
  have HTO := Lib.hid (fun (W : World) (hW : Below w0.heap.size w0 W) (ht1 : TR F xs) => rto_any pf pp cf cp n m F c W h0.fl (h0.fs.below hW) ht1.1.2.1 h0.fb)
  have HT := Lib.hid ht
  have HB0 := Lib.hid hb0
  have HW0 := Lib.hid hw0
  clear hb0 hw0 h h0 hpn ht
  cases t with
  | false =>
    have hn : ¬ TR F xs := fun h => absurd (HT.out.2 h) (by decide)
    have hcf : canonF F xs c = c := by unfold canonF; rw [if_neg hn]
    rw [hcf]
    clear hcf hn HTO
    go_enter Tryz.func20, Tryz.ntmps20
    go_wp2_with fail
    rw [← HW0.out]
    refine HRT.out.mono ?_
    rintro e w1 ⟨rfl, hb1⟩
    have HB1 := Lib.hid (bl_trans HB0.out hb1)
    clear hc0 hc1 HRT hb1
    go_wp2
    go_ret
    exact ⟨rfl, HB1.out⟩
  | true =>
    have hy : TR F xs := HT.out.1 rfl
    have hcf : canonF F xs c = (look F c).getD c := by unfold canonF; rw [if_pos hy]
    rw [hcf]
    have HY := Lib.hid hy
    clear hcf hy
    generalize look F c = o at HTO ⊢
    rcases o with _ | z
    · simp only [Option.getD_none, Option.isSome_none] at HTO ⊢
      go_enter Tryz.func20, Tryz.ntmps20
      go_wp2_with fail
      rw [← HW0.out]
      refine HRT.out.mono ?_
      rintro e w1 ⟨rfl, hb1⟩
      have hd0 := keep_cell hb1 hc0
      have hd1 := keep_cell hb1 hc1
      have HB1 := Lib.hid (bl_trans HB0.out hb1)
      have HTO1 := Lib.hid (HTO.out w1 hb1 HY.out)
      clear hc0 hc1 HRT hb1 HTO
      go_wp2_with fail
      refine HTO1.out.mono ?_
      rintro e w2 ⟨rfl, hb2⟩
      have HB2 := Lib.hid (bl_trans HB1.out hb2)
      clear hb2
      go_wp2
      go_ret
      exact ⟨rfl, HB2.out⟩
    · simp only [Option.getD_some, Option.isSome_some] at HTO ⊢
      go_enter Tryz.func20, Tryz.ntmps20
      go_wp2_with fail
      rw [← HW0.out]
      refine HRT.out.mono ?_
      rintro e w1 ⟨rfl, hb1⟩
      have hd0 := keep_cell hb1 hc0
      have hd1 := keep_cell hb1 hc1
      have HB1 := Lib.hid (bl_trans HB0.out hb1)
      have HTO1 := Lib.hid (HTO.out w1 hb1 HY.out)
      clear hc0 hc1 HRT hb1 HTO
      go_wp2_with fail
      refine HTO1.out.mono ?_
      rintro e w2 ⟨rfl, hb2⟩
      have HB2 := Lib.hid (bl_trans HB1.out hb2)
      clear hb2
      go_wp2
      go_ret
      exact ⟨rfl, HB2.out⟩

def RPropP (F : List R) (xs : List PV) (z : List UInt8) (w : World) (e : Ending) (w' : World) : Prop :=
  ∃ q d l b, e = .returned (.tuple #[.slice q l.length d, .bool b]) ∧ SlR w' q l ∧ Below w.heap.size w w' ∧
    ((b = true ∧ TR F xs ∧ ∃ k, k < xs.length ∧ nm xs k = z ∧ l = (gp xs k).2.2.2) ∨ (b = false ∧ l = [] ∧ (TR F xs → ∀ k, k < xs.length → nm xs k ≠ z)))
theorem eq_bytes {a b : ByteArray} : a = b ↔ a.data.toList = b.data.toList := by
  constructor
  · rintro rfl; rfl
  · intro h; cases a; cases b; simp only [Array.toList_inj] at h; rw [h]
set_option maxHeartbeats 3200000 in
set_option maxRecDepth 100000 in
theorem rprop_any (pf pp : Option Addr) (cf cp n m : Nat) (F : List R) (xs : List PV) (z : ByteArray) (t : Bool) (w : World) (ht : t = true ↔ TR F xs) (h : Tab w pf n pp m F xs) (hpn : ∀ x ∈ xs, x.1.size ≤ 1000000000) (hmm : m ≤ 3000) (hnil : ∀ i, i < m → (gp xs i).2.1 = none → (gp xs i).2.2.1 = 0) :
    Calls Tryz.prog 15 #[.agg #[.slice pf n cf, .slice pp m cp], .string z] w (RPropP F xs z.data.toList w) := by
  obtain ⟨w0, hw0⟩ : ∃ W, W = w.alloc (.cells #[.slice pf n cf, .slice pp m cp] 30) := ⟨_, rfl⟩
  have hb0 : Below w.heap.size w w0 := by rw [hw0]; exact bl_alloc _ _
  have hc0 : w0.cell? ⟨w.heap.size, 0, none⟩ = some (.slice pf n cf) := by rw [hw0, World.cell?_alloc_at _ _ _ _ rfl]; rfl
  have hc1 : w0.cell? ⟨w.heap.size, 1, none⟩ = some (.slice pp m cp) := by rw [hw0, World.cell?_alloc_at _ _ _ _ rfl]; rfl
  have H0 := Lib.hid (h.below hb0)
  have HRT := Lib.hid (fun (W : World) (hW : Below w0.heap.size w0 W) => rright_t pf pp cf cp n m F xs t W ht (H0.out.below hW) hpn)
  have HNIL := Lib.hid hnil
  have HT := Lib.hid ht
  have HB0 := Lib.hid hb0
  have HW0 := Lib.hid hw0
  have HC0 := Lib.hid hc0
  have HC1 := Lib.hid hc1
  have hmI : (m : Int) ≤ 3000 := by omega
  clear hb0 hw0 h hpn ht hc0 hc1 hnil hmm
  go_enter Tryz.func15, Tryz.ntmps15
  go_wp2
  rw [← HW0.out]
  generalize hbx : w.heap.size = bx at HC0 HC1 ⊢
  go_loopw [6] (fun iv wr => ∃ (k : Nat), k ≤ m ∧ iv = .int .i64 (k : Nat) ∧ Hid (t = true → ∀ i, i < k → nm xs i ≠ z.data.toList) ∧ Hid (Below w0.heap.size w0 wr)) (fun iv _ => m - (intOf iv).toNat)
  case atStart => exact ⟨0, Nat.zero_le _, rfl, fun _ i hi => by omega, Below.refl _ _⟩
  case round =>
    obtain ⟨k, hk, rfl, HNO, HB⟩ := hrel
    rename World => wr
    have hd0 := keep_cell HB.out HC0.out
    have hd1 := keep_cell HB.out HC1.out
    have HBA := Lib.hid (bl_trans HB0.out HB.out)
    by_cases hkm : k < m
    · have hkI : (k : Int) < m := by omega
      have HR := Lib.hid (HRT.out wr HB.out)
      have HKM := Lib.hid hkm
      clear hkm
      go_wp2_with fail
      refine HR.out.mono ?_
      rintro e w1 ⟨rfl, hb1⟩
      have hd0 := keep_cell hb1 hd0
      have hd1 := keep_cell hb1 hd1
      have HB1 := Lib.hid (bl_trans HB.out hb1)
      have HBA1 := Lib.hid (bl_trans HBA.out hb1)
      clear hb1 HR
      cases t with
      | false =>
        go_wp2
        refine bodyPost_ret (v := .tuple #[.slice none 0 0, .bool false]) (by simp [results, Tryz.f15, go_sem]) rfl ⟨none, 0, [], false, rfl, .inl rfl, HBA1.out, .inr ⟨rfl, rfl, fun h => absurd (HT.out.2 h) (by decide)⟩⟩
      | true =>
        have h1 := H0.out.below HB1.out
        have hkx : k < xs.length := by have := h1.pl; have := HKM.out; omega
        obtain ⟨bp, op, rfl, hp0, hp1⟩ := slp_at h1.ps hkx
        have hsl : SlR w1 (gp xs k).2.1 (gp xs k).2.2.2 := h1.ps.1 _ (by rw [gp_get hkx]; exact List.getElem_mem _)
        have HPR := Lib.hid ((HT.out.1 rfl).2 k hkx)
        have HKX := Lib.hid hkx
        have HNK := Lib.hid (HNIL.out k HKM.out)
        have HNM := Lib.hid (show nm xs k = (gp xs k).1.data.toList from rfl)
        obtain ⟨S, hS⟩ : ∃ S, S = (gp xs k).2.2.2 := ⟨_, rfl⟩
        have HLS : Hid (S.length ≤ 2000) := by rw [hS]; exact HPR.out.2.2.1
        have HSS := Lib.hid hS
        rw [← hS] at hp1 hsl
        generalize (gp xs k).1 = nk at *
        generalize (gp xs k).2.1 = qk at *
        generalize (gp xs k).2.2.1 = ck at *
        obtain ⟨ns, hns⟩ : ∃ ns, ns = S.length := ⟨_, rfl⟩
        rw [← hns] at hp1
        have HNS := Lib.hid hns
        have HSL := Lib.hid hsl
        clear hS hkx HPR h1 hns hsl
        by_cases hz : nk = z
        · subst hz
          obtain ⟨w2, hw2⟩ : ∃ W, W = w1.alloc (.cells #[] 24) := ⟨_, rfl⟩
          have hb2 : Below w1.heap.size w1 w2 := by rw [hw2]; exact bl_alloc _ _
          have ho2 : OwnR w2 w1.heap.size (.slice (some ⟨w1.heap.size, 0, none⟩) 0 0) [] := by
            rw [hw2]; exact ownR_new (Nat.le_refl _) rfl rfl (by decide)
          obtain ⟨v3, w3, hr1, hr2, hr3⟩ := run_joinR (w := w2) 25 ho2 (HSL.out.below hb2) HNK.out (by have := HLS.out; simp; omega) hb2.size
          have hb3 : Below w1.heap.size w1 w3 := hb2.grown hr3 hb2.size (fun k hk => (ho2.lt k hk).1)
          rw [List.nil_append] at hr2
          rw [← HNS.out] at hr1
          obtain ⟨q3, c3, hv3, _, _, _, hsl3, _⟩ := ownR_form hr2
          subst hv3
          rw [hw2] at hr1
          have hd0 := hd0
          have he0 := keep_cell (bl_alloc w1 (.cells #[] 24)) hd0
          have he1 := keep_cell (bl_alloc w1 (.cells #[] 24)) hd1
          have hq0 := keep_cell (bl_alloc w1 (.cells #[] 24)) hp0
          have hq1 := keep_cell (bl_alloc w1 (.cells #[] 24)) hp1
          have HR1 := Lib.hid hr1
          have HS3 := Lib.hid hsl3
          have HB3 := Lib.hid (bl_trans HBA1.out hb3)
          clear hr1 hr2 hr3 hb3 hb2 ho2 hw2 hsl3
          go_wp2_with (at_builtin; refine wpList_append_run (by rfl) _ _ 25 rfl _ _ _ rfl rfl HR1.out ?_)
          refine bodyPost_ret (v := .tuple #[.slice q3 S.length c3, .bool true]) (by simp [results, Tryz.f15, go_sem]) rfl ⟨q3, c3, S, true, rfl, HS3.out, HB3.out, .inl ⟨rfl, HT.out.1 trivial, k, HKX.out, HNM.out, HSS.out⟩⟩
        · have HZ := Lib.hid hz
          have hz0 : (nk.toList == z.toList) = false := by
            rw [Bool.eq_false_iff]
            intro h
            rw [beq_iff_eq, toList_data, toList_data] at h
            exact hz (eq_bytes.2 h)
          clear hz
          go_wp2
          go_roundw
          case rel => exact ⟨k + 1, by have := HKM.out; omega, by go_num, (by
            intro _ i hi
            by_cases e : i = k
            · subst e
              rw [HNM.out]
              exact fun h => HZ.out (eq_bytes.2 h)
            · exact HNO.out trivial i (by omega)), HB1.out⟩
          case measure => have := HKM.out; simp [intOf]; omega
    · have hkI : (m : Int) ≤ k := by omega
      have hke : k = m := by omega
      go_wp2
      refine bodyPost_ret (v := .tuple #[.slice none 0 0, .bool false]) (by simp [results, Tryz.f15, go_sem]) rfl ⟨none, 0, [], false, rfl, .inl rfl, HBA.out, .inr ⟨rfl, rfl, fun h i hi => HNO.out (HT.out.2 h) i (by rw [hke, H0.out.pl]; exact hi)⟩⟩

theorem range_rows_any (q : Option Addr) (c n : Nat) (xs : List SV) (w : World) (hn : n = xs.length) (hx : SlS w q xs) (hz : ∀ i, i < n → (gs xs i).2.2.length ≤ 9223372036854775807) (hnI : (n : Int) ≤ 9223372036854775807) :
    Calls Tryz.prog 11 #[.slice q n c, .int .i64 120] w fun e w' => ∃ z : Nat, e = .returned (.int .i64 (z : Nat)) ∧ (z ≤ 120 → n ≤ 120 ∧ ∀ i, i < n → (gs xs i).2.2.length ≤ 120) ∧ (n ≤ 20 → (∀ i, i < n → (gs xs i).2.2.length ≤ 4) → z ≤ 120) ∧ Below w.heap.size w w' := by
  have HX := Lib.hid hx
  have HN := Lib.hid hn
  have HZ := Lib.hid hz
  clear hx hn hz
  go_enter Tryz.func11, Tryz.ntmps11
  go_wp2
  go_loopw [5, 6] (fun zv iv wr => ∃ (i z : Nat), i ≤ n ∧ zv = .int .i64 (z : Nat) ∧ iv = .int .i64 (i : Nat) ∧ (z : Int) ≤ 250 ∧ Hid (z ≤ 120 → ∀ j, j < i → (gs xs j).2.2.length ≤ 120) ∧ Hid (i ≤ z) ∧ Hid ((∀ j, j < n → (gs xs j).2.2.length ≤ 4) → z ≤ i * 5) ∧ Hid (Below w.heap.size w wr)) (fun _ iv _ => n - (intOf iv).toNat)
  case atStart => exact ⟨0, 0, Nat.zero_le _, rfl, rfl, by omega, fun _ j hj => absurd hj (by omega), Nat.zero_le _, fun _ => Nat.zero_le _, Below.refl _ _⟩
  case round =>
    obtain ⟨i, z, hi, rfl, rfl, hzb, HS, HIZ, HM, HB⟩ := hrel
    rename World => wr
    by_cases hin : i < n
    · have hiI : (i : Int) < n := by omega
      by_cases hz1 : z ≤ 120
      · have hzI1 : (z : Int) ≤ 120 := by omega
        have hix : i < xs.length := by have := HN.out; omega
        obtain ⟨bb, o, rfl, hd0⟩ := sls_at (HX.out.below HB.out) hix
        have hszx := HZ.out i hin
        obtain ⟨k, hk⟩ : ∃ k, k = (gs xs i).2.2.length := ⟨_, rfl⟩
        rw [← hk] at hd0
        generalize (gs xs i).1 = q1 at hd0
        generalize (gs xs i).2.1 = c1 at hd0
        have HK := Lib.hid hk
        obtain ⟨k1, hk1⟩ : ∃ k1, k1 = min k 121 := ⟨_, rfl⟩
        have hk2 : (k1 : Int) ≤ 121 := by rw [hk1]; have := Nat.min_le_right k 121; omega
        have HRO : Hid (∀ W, Calls Tryz.prog 41 #[.slice q1 k c1, .int .i64 120] W fun e w' => e = .returned (.int .i64 (k1 : Nat)) ∧ w' = W) := fun W => by
          rw [hk1]; exact rangesOf_any q1 c1 k W
        have HF : Hid (z + 1 + k1 ≤ 120 → ∀ j, j < i + 1 → (gs xs j).2.2.length ≤ 120) := fun h j hj => by
          by_cases e : j = i
          · subst e; rw [← hk]; rw [hk1] at h; omega
          · exact HS.out hz1 j (by omega)
        have HM2 : Hid ((∀ j, j < n → (gs xs j).2.2.length ≤ 4) → z + 1 + k1 ≤ (i + 1) * 5) := fun h => by
          have h1 := HM.out h
          have h2 := h i hin
          rw [← hk] at h2
          have : k1 ≤ 4 := by rw [hk1]; omega
          omega
        have HI := Lib.hid hin
        have HZ1 := Lib.hid hz1
        clear hszx hk hk1 hin hz1 hix
        have hw1a : IntKind.i64.wrap ((z : Int) + 1) = (z : Int) + 1 := by rw [IntKind.wrap_i64]; omega
        have hw1b : IntKind.i64.wrap ((z : Int) + 1 + (k1 : Int)) = (z : Int) + 1 + (k1 : Int) := by rw [IntKind.wrap_i64]; omega
        have HIZ2 : Hid (i + 1 ≤ z + 1 + k1) := by have := HIZ.out; show _ ≤ _; omega
        have hzb2 : ((z + 1 + k1 : Nat) : Int) ≤ 250 := by omega
        go_wp2_with (go_at_call 41; (with_reducible refine (HRO.out _).mono ?_); rintro e w6 ⟨rfl, hw6⟩; obtain rfl := hw6.symm; clear hw6)
        go_roundw
        case rel => exact ⟨i + 1, z + 1 + k1, by have := HI.out; omega, by simp, by go_num, hzb2, HF.out, HIZ2.out, HM2.out, HB.out⟩
        case measure => have := HI.out; simp [intOf]; omega
      · have hzI1 : ¬ ((z : Int) ≤ 120) := by omega
        go_wp2
        go_ret
        refine ⟨z, rfl, fun h => absurd h hz1, fun h h2 => ?_, HB.out⟩
        have := HM.out h2
        omega
    · have hiI : ¬ ((i : Int) < n) := by omega
      have hin2 : i = n := by omega
      go_wp2
      go_ret
      exact ⟨z, rfl, fun h => ⟨by have := HIZ.out; omega, fun j hj => HS.out h j (by omega)⟩, fun h h2 => by have := HM.out h2; omega, HB.out⟩
end Go.Proofs.YtglgfpapackcdaaGreat


namespace Go.Proofs.YtglgfpapackcdaaGreat
open Go.RowKit Tnr

set_option maxHeartbeats 6400000 in
set_option maxRecDepth 100000 in
theorem keptRows_any (p q : Option Addr) (c d n B : Nat) (xs ys : List SV) (w : World) (hn : n = xs.length) (hny : n = ys.length) (hx : SlS w p xs) (hl : (flat xs).length ≤ 3000000) (hnm : n ≤ 3000000) (ho : w.ownsRow B 25 1 (.slice q n d) n (ys.map svV)) (hlt : ∀ i, i < n → LentOf w B (gs xs i) (gs ys i)) :
    Calls Tryz.prog 23 #[.slice q n d, .slice p n c] w fun e w' => e = .returned (.bool true) ∧ Below w.heap.size w w' := by
  have HY := Lib.hid (lentRows_sls hny hn ho hlt).1
  have HX := Lib.hid hx
  have HL := Lib.hid hl
  have HLT := Lib.hid hlt
  have hnI : (n : Int) ≤ 3000000 := by omega
  have HN := Lib.hid hn
  have HNY := Lib.hid hny
  clear hx hl hn hnm hny ho hlt
  go_enter Tryz.func23, Tryz.ntmps23
  go_wp2
  go_loopw [5] (fun iv wr => ∃ (k : Nat), k ≤ n ∧ iv = .int .i64 (k : Nat) ∧ Hid (Below w.heap.size w wr)) (fun iv _ => n - (intOf iv).toNat)
  case atStart => exact ⟨0, Nat.zero_le _, rfl, Below.refl _ _⟩
  case round =>
    obtain ⟨k, hk, rfl, HB⟩ := hrel
    rename World => wr
    by_cases hkn : k < n
    · have hkx : k < xs.length := by have := HN.out; omega
      obtain ⟨bp, op, rfl, hcell⟩ := sls_at (HX.out.below HB.out) hkx
      obtain ⟨bq, oq, rfl, hcelq⟩ := sls_at (HY.out.below HB.out) (show k < ys.length by have := HNY.out; omega)
      have hkI : (k : Int) < n := by omega
      obtain ⟨pa, ca, la, hga⟩ : ∃ pa ca la, gs xs k = (pa, ca, la) := ⟨_, _, _, rfl⟩
      obtain ⟨pb, cb, lb, hgb⟩ : ∃ pa ca la, gs ys k = (pa, ca, la) := ⟨_, _, _, rfl⟩
      have HA : Hid (SlR wr pa la) := by
        have h := HX.out.1 (gs xs k) (by rw [gs_get hkx]; exact List.getElem_mem hkx)
        rw [hga] at h
        exact h.below HB.out
      have hLA : la.length ≤ 3000000 := by
        have h1 := flat_one_le hkx
        rw [hga] at h1
        have h2 := HL.out
        simp only at h1
        omega
      have hlk := (HLT.out k hkn).below HB.out
      rw [hga, hgb] at hlk
      obtain ⟨hl1, g, hl2, hl3, hl4, hl5⟩ := hlk
      simp only at hl1 hl2 hl3 hl4 hl5
      subst hl1 hl2
      rw [hga] at hcell
      rw [hgb] at hcelq
      simp only at hcell hcelq
      obtain ⟨m, hm⟩ : ∃ m, m = lb.length := ⟨_, rfl⟩
      rw [← hm] at hcell hcelq hl3 hl5
      have HKEPT : Hid (∀ W : World, Below wr.heap.size wr W → Calls Tryz.prog 60 #[.slice (some ⟨g, 0, none⟩) m cb, .slice pa m ca] W fun e w' => e = .returned (.bool true) ∧ Below W.heap.size W w') :=
        fun W hb => keptR_any pa ca m lb B g cb W hm (HA.out.below hb) hLA (ownR_below hl5 hb) hl3 hl4
      have HKN := Lib.hid hkn
      clear hga hgb hm hkx hLA hkn hl3 hl4 hl5
      go_wp2
      go_region_held3 (fun W => W.cell? ⟨bp, op + k, none⟩ = some (.slice pa m ca) ∧ W.cell? ⟨bq, oq + k, none⟩ = some (.slice (some ⟨g, 0, none⟩) m cb) ∧ Hid (Below wr.heap.size wr W)) (first | exact ⟨hcell, hcelq, bl_drew _⟩ | exact ⟨by assumption, by assumption, by assumption⟩) (first | (go_at_call 60; (with_reducible refine (HKEPT.out _ (bl_drew _)).mono ?_); rintro e w6 ⟨rfl, hb6⟩; have hq1 : World.cell? w6 ⟨bp, op + k, none⟩ = some (.slice pa m ca) := keep_cell hb6 (by assumption); have hq2 : World.cell? w6 ⟨bq, oq + k, none⟩ = some (.slice (some ⟨g, 0, none⟩) m cb) := keep_cell hb6 (by assumption); have hq3 : Hid (Below wr.heap.size wr w6) := bl_trans (bl_drew _) hb6; clear hb6))
      go_wp2
      go_roundw
      case rel => exact ⟨k + 1, by have := HKN.out; omega, by go_num, bl_trans HB.out hq3.out⟩
      case measure => have := HKN.out; simp [intOf]; omega
    · have hkI : (n : Int) ≤ k := by omega
      go_wp2
      go_ret
      exact ⟨rfl, HB.out⟩
end Go.Proofs.YtglgfpapackcdaaGreat


namespace Go.Proofs.YtglgfpapackcdaaGreat
open Go.RowKit Tnr

theorem tr_lent {F : List R} {xs ys : List PV} {m : Nat} (hx : m = xs.length) (hy : m = ys.length) (he : ∀ i, i < m → (gp ys i).1 = (gp xs i).1 ∧ (gp ys i).2.2.2 = (gp xs i).2.2.2) : TR F ys ↔ TR F xs := by
  have h : ∀ (a b : List PV), m = a.length → m = b.length → (∀ i, i < m → (gp b i).1 = (gp a i).1 ∧ (gp b i).2.2.2 = (gp a i).2.2.2) → PR a → PR b := by
    intro a b ha hb hab hp i hi
    have hi' : i < m := by omega
    obtain ⟨p1, p2, p3, p4⟩ := hp i (by omega)
    obtain ⟨e1, e2⟩ := hab i hi'
    refine ⟨by rw [e1]; exact p1, fun h0 => ?_, by rw [e2]; exact p3, by rw [e2]; exact p4⟩
    rw [e1, (hab (i - 1) (by omega)).1]
    exact p2 h0
  exact ⟨fun ⟨h1, h2⟩ => ⟨h1, h ys xs hy hx (fun i hi => ⟨(he i hi).1.symm, (he i hi).2.symm⟩) h2⟩, fun ⟨h1, h2⟩ => ⟨h1, h xs ys hx hy he h2⟩⟩
theorem canon_lent {F : List R} {xs ys : List PV} (h : TR F ys ↔ TR F xs) (c : Int) : canonF F ys c = canonF F xs c := by
  unfold canonF
  by_cases g : TR F xs
  · rw [if_pos g, if_pos (h.2 g)]
  · rw [if_neg g, if_neg (fun k => g (h.1 k))]
def Fnd (F : List R) (xs : List PV) (z : List UInt8) (b : Bool) (L : List R) : Prop :=
  (b = true ∧ TR F xs ∧ ∃ k, k < xs.length ∧ nm xs k = z ∧ L = (gp xs k).2.2.2) ∨ (b = false ∧ L = [] ∧ (TR F xs → ∀ k, k < xs.length → nm xs k ≠ z))
theorem fnd_ex (F : List R) (xs : List PV) (z : List UInt8) : ∃ b L, Fnd F xs z b L := by
  rcases Classical.em (TR F xs ∧ ∃ k, k < xs.length ∧ nm xs k = z) with ⟨h1, k, h2, h3⟩ | h
  · exact ⟨true, _, .inl ⟨rfl, h1, k, h2, h3, rfl⟩⟩
  · exact ⟨false, [], .inr ⟨rfl, rfl, fun h1 k h2 h3 => h ⟨h1, k, h2, h3⟩⟩⟩
theorem fnd_one {F : List R} {xs : List PV} {z : List UInt8} {b b' : Bool} {L L' : List R} (h : Fnd F xs z b L) (h' : Fnd F xs z b' L') : b = b' ∧ L = L' := by
  rcases h with ⟨e, ht, k, hk, hz, hL⟩ | ⟨e, hL, hn⟩
  · rcases h' with ⟨e', ht', k', hk', hz', hL'⟩ | ⟨e', hL', hn'⟩
    · have hr := rise_PR ht.2
      have : k = k' := by
        rcases Nat.lt_trichotomy k k' with h | h | h
        · have := hr k k' h hk'
          rw [hz, hz'] at this
          exact absurd this (lt_ir _)
        · exact h
        · have := hr k' k h hk
          rw [hz, hz'] at this
          exact absurd this (lt_ir _)
      subst this
      exact ⟨by rw [e, e'], by rw [hL, hL']⟩
    · exact absurd hz (hn' ht k hk)
  · rcases h' with ⟨e', ht', k', hk', hz', hL'⟩ | ⟨e', hL', hn'⟩
    · exact absurd hz' (hn ht' k' hk')
    · exact ⟨by rw [e, e'], by rw [hL, hL']⟩
theorem fnd_lent {F : List R} {xs ys : List PV} {m : Nat} {z : List UInt8} {b : Bool} {L : List R} (hx : m = xs.length) (hy : m = ys.length) (he : ∀ i, i < m → (gp ys i).1 = (gp xs i).1 ∧ (gp ys i).2.2.2 = (gp xs i).2.2.2) (h : Fnd F xs z b L) : Fnd F ys z b L := by
  have ht := tr_lent (F := F) hx hy he
  have hnm : ∀ i, i < m → nm ys i = nm xs i := fun i hi => by unfold nm; rw [(he i hi).1]
  rcases h with ⟨e, h1, k, hk, hz, hL⟩ | ⟨e, hL, hn⟩
  · exact .inl ⟨e, ht.2 h1, k, by omega, by rw [hnm k (by omega)]; exact hz, by rw [(he k (by omega)).2]; exact hL⟩
  · exact .inr ⟨e, hL, fun h k hk => by rw [hnm k (by omega)]; exact hn (ht.1 h) k (by omega)⟩
theorem fnd_small {F : List R} {xs : List PV} {z : List UInt8} {b : Bool} {L : List R} (h : Fnd F xs z b L) : L.length ≤ 2000 := by
  rcases h with ⟨_, h1, k, hk, _, hL⟩ | ⟨_, hL, _⟩
  · rw [hL]; exact (h1.2 k hk).2.2.1
  · rw [hL]; exact Nat.zero_le _
theorem fprop_t (pf pp : Option Addr) (cf cp n m : Nat) (F : List R) (xs : List PV) (z : ByteArray) (b : Bool) (L : List R) (w : World) (hf : Fnd F xs z.data.toList b L) (h : Tab w pf n pp m F xs) :
    Calls Tryz.prog 14 #[.agg #[.slice pf n cf, .slice pp m cp], .string z] w fun e w' => ∃ q d, e = .returned (.tuple #[.slice q L.length d, .bool b]) ∧ OwnR w' w.heap.size (.slice q L.length d) L ∧ Below w.heap.size w w' := by
  refine (fprop_any propsRight_any pf pp cf cp n m F xs z w h).mono ?_
  rintro e w' ⟨q, d, l, b', rfl, ho, hb, hc⟩
  have hf' : Fnd F xs z.data.toList b' l := by
    rcases hc with ⟨e, h1, k, hk, hz, hL⟩ | ⟨e, hL, hn⟩
    · exact .inl ⟨e, h1, k, hk, hz, by rw [hL]; exact cn_self ((rfB_iff _ _).1 (h1.2 k hk).2.2.2)⟩
    · exact .inr ⟨e, hL, hn⟩
  obtain ⟨rfl, rfl⟩ := fnd_one hf hf'
  exact ⟨q, d, rfl, ho, hb⟩
theorem rprop_t (pf pp : Option Addr) (cf cp n m : Nat) (F : List R) (xs : List PV) (z : ByteArray) (t b : Bool) (L : List R) (w : World) (hf : Fnd F xs z.data.toList b L) (ht : t = true ↔ TR F xs) (h : Tab w pf n pp m F xs) (hpn : ∀ x ∈ xs, x.1.size ≤ 1000000000) (hmm : m ≤ 3000) (hnil : ∀ i, i < m → (gp xs i).2.1 = none → (gp xs i).2.2.1 = 0) :
    Calls Tryz.prog 15 #[.agg #[.slice pf n cf, .slice pp m cp], .string z] w fun e w' => ∃ q d, e = .returned (.tuple #[.slice q L.length d, .bool b]) ∧ SlR w' q L ∧ Below w.heap.size w w' := by
  refine (rprop_any pf pp cf cp n m F xs z t w ht h hpn hmm hnil).mono ?_
  rintro e w' ⟨q, d, l, b', rfl, hs, hb, hc⟩
  obtain ⟨rfl, rfl⟩ := fnd_one hf hc
  exact ⟨q, d, rfl, hs, hb⟩
theorem fright_t (pf pp : Option Addr) (cf cp n m : Nat) (F : List R) (xs : List PV) (t : Bool) (w : World) (ht : t = true ↔ TR F xs) (h : Tab w pf n pp m F xs) :
    Calls Tryz.prog 7 #[.agg #[.slice pf n cf, .slice pp m cp]] w fun e w' => e = .returned (.bool t) ∧ Below w.heap.size w w' := by
  refine (fright_any pf pp cf cp n m F xs w h).mono ?_
  rintro e w' ⟨u, rfl, hu, hb⟩
  have : u = t := by
    cases u <;> cases t <;> first | rfl | exact absurd (ht.2 (hu.1 rfl)) (by decide) | exact absurd (hu.2 (ht.1 rfl)) (by decide)
  rw [this]; exact ⟨rfl, hb⟩
theorem flat_le {M : Nat} : ∀ {xs : List SV}, (∀ x ∈ xs, x.2.2.length ≤ M) → (flat xs).length ≤ xs.length * M
  | [], _ => by simp [flat]
  | x :: xs, h => by
    have h1 := flat_le (xs := xs) fun y hy => h y (List.mem_cons_of_mem _ hy)
    have h2 := h x List.mem_cons_self
    unfold flat at h1 ⊢
    rw [List.flatMap_cons, List.length_append, List.length_cons, Nat.succ_mul]
    omega
def cloS (F : List R) (t : Bool) (A : List R) : List R := if t = true then clo F A else cn A
theorem clo_small (F : List R) (ps : List PV) (t : Bool) (A : List R) (ht : t = true ↔ TR F ps) (hA : A.length ≤ 1000000) : (cloS F t A).length ≤ 10000000 := by
  unfold cloS
  cases t with
  | false => exact Nat.le_trans (cn_length _) (by omega)
  | true =>
    have h := fr_length (ht.1 rfl).1
    rw [if_pos rfl]
    unfold clo
    refine Nat.le_trans (cn_length _) ?_
    have h1 := toks_length F A
    have h2 : (froms F A).length ≤ F.length := by
      unfold froms
      rw [List.length_map]
      exact List.length_filter_le _ _
    simp only [List.length_append, pts, List.length_map]
    omega
structure FT (w : World) (bt b9 n m k g cap g2 cap2 cf cp d2 : Nat) (pf pp q q2 : Option Addr) (F : List R) (ps ys : List PV) (xs zs : List SV) (W : World) : Prop where
  c0 : W.cell? ⟨bt, 0, none⟩ = some (.slice pf n cf)
  c1 : W.cell? ⟨bt, 1, none⟩ = some (.slice pp m cp)
  e0 : W.cell? ⟨b9, 0, none⟩ = some (.slice (some ⟨g, 0, none⟩) n cap)
  e1 : W.cell? ⟨b9, 1, none⟩ = some (.slice (some ⟨g2, 0, none⟩) m cap2)
  tb : Tab W pf n pp m F ps
  lt : LTab W w.heap.size g cap n g2 cap2 m F ps ys
  sx : SlS W q xs
  ro : W.ownsRow w.heap.size 25 1 (.slice q2 k d2) k (zs.map svV)
  lo : ∀ i, i < k → LentOf W w.heap.size (gs xs i) (gs zs i)
  be : Below w.heap.size w W
theorem LTab.tab {w : World} {B g cap nf g2 cap2 np : Nat} {F : List R} {xs ys : List PV} (h : LTab w B g cap nf g2 cap2 np F xs ys) (hnf : nf = F.length) (hfl : nf ≤ 5000000000000) (hn : np = xs.length) (hnm : np ≤ 3000) (hl : ∀ i, i < np → (gp xs i).2.2.2.length ≤ 3000) : Tab w (some ⟨g, 0, none⟩) nf (some ⟨g2, 0, none⟩) np F ys := by
  obtain ⟨hs, he⟩ := h.pr.slp hn
  refine ⟨hnf, lentF_sl h.fo, by omega, h.pr.1, hs, by omega, fun x hx => ?_⟩
  obtain ⟨i, hi, rfl⟩ := List.mem_iff_getElem.1 hx
  have hi' : i < np := by have := h.pr.1; omega
  have := hl i hi'
  rw [← (he i hi').2, gp_get hi] at this
  omega
end Go.Proofs.YtglgfpapackcdaaGreat

