/- TreeWhole's own walk. -/
import Derived.Test.YtpiknmnhcpjfaaaGreatMy
namespace Go.Proofs.YtpiknmnhcpjfaaaGreat
open Go.RowKit Tnr Tnt

def kidsN (d : Nd) : Prop := d.kids.length ≤ 1000000 ∧ d.set.length ≤ 1000000
theorem smallNds_cov {L : List Nd} (h : smallNds L) (f k : Nat) : smallNds (covN L f k) := fun d hd => by
  obtain ⟨x, hx, rfl⟩ := cov_mem hd
  have := h x hx
  exact ⟨by show (x.kids.map _).length ≤ _; rw [List.length_map]; exact this.1, this.2⟩
theorem smallNds_of {L : List Nd} (h : smallNds L) (z : Int) : smallNds (ofT L z) := by
  unfold ofT
  split
  · intro d hd; simp at hd
  · split
    · exact smallNds_cov h _ _
    · intro d hd; simp at hd
theorem smallNds_kids {L : List Nd} (h : smallNds L) : ∀ K ∈ kidsT L, smallNds K := by
  unfold kidsT
  split
  · intro K hK; simp at hK
  · intro K hK
    obtain ⟨k, _, rfl⟩ := List.mem_map.1 hK
    exact smallNds_cov h _ _
theorem few_small {xs : List NV} (h : Few xs) : smallNds (nds xs) := fun d hd => by
  obtain ⟨x, hx, rfl⟩ := List.mem_map.1 hd
  exact h x hx
theorem fewT_kids {ts : List TV} {L : List Nd} (h : treesN ts = kidsT L) (hs : smallNds L) : FewT ts := fun t ht => few_nds rfl (smallNds_kids hs _ (h ▸ List.mem_map.2 ⟨t, ht, rfl⟩))
theorem size_kids {ts : List TV} {L : List Nd} {l : List (Nat × Nat)} (ho : ordT L = some l) (h : treesN ts = kidsT L) : sizeT ts + 1 = L.length := by
  rw [← kids_sum ho, ← h]
  unfold treesN sizeT
  rw [List.map_map]
  congr 3
  funext t
  exact (nds_length t.ys).symm
theorem sizeT_take {ts : List TV} {k : Nat} (h : k < ts.length) : sizeT (ts.take (k + 1)) = sizeT (ts.take k) + (gt ts k).ys.length := by
  rw [take_gt h]; unfold sizeT; simp
theorem sizeT_le {ts : List TV} (k : Nat) : sizeT (ts.take k) ≤ sizeT ts := by
  conv => rhs; rw [← List.take_append_drop k ts]
  unfold sizeT
  rw [List.map_append, List.sum_append]
  omega
theorem sizeT_mem {ts : List TV} {t : TV} (h : t ∈ ts) : t.ys.length ≤ sizeT ts := by
  obtain ⟨i, hi, rfl⟩ := List.getElem_of_mem h
  have := sizeT_take hi
  have h2 := sizeT_le (ts := ts) (i + 1)
  rw [gt_get hi] at this
  omega
def put9 (w : World) (b : Nat) (v0 v1 v2 v3 v4 v5 v6 v7 v8 : Value) : World := ((((((((w.setCell ⟨b, 0, none⟩ v0).setCell ⟨b, 1, none⟩ v1).setCell ⟨b, 2, none⟩ v2).setCell ⟨b, 3, none⟩ v3).setCell ⟨b, 4, none⟩ v4).setCell ⟨b, 5, none⟩ v5).setCell ⟨b, 6, none⟩ v6).setCell ⟨b, 7, none⟩ v7).setCell ⟨b, 8, none⟩ v8
theorem bx_put9 {w : World} {b : Nat} {T : TypeId} {z0 z1 z2 z3 z4 z5 z6 z7 z8 : Value} (h : Bx w b T #[z0, z1, z2, z3, z4, z5, z6, z7, z8]) (v0 v1 v2 v3 v4 v5 v6 v7 v8 : Value) : Bx (put9 w b v0 v1 v2 v3 v4 v5 v6 v7 v8) b T #[v0, v1, v2, v3, v4, v5, v6, v7, v8] := by
  have h0 : Bx (w.setCell ⟨b, 0, none⟩ v0) b T #[v0, z1, z2, z3, z4, z5, z6, z7, z8] := h.set 0 v0
  have h1 : Bx ((w.setCell ⟨b, 0, none⟩ v0).setCell ⟨b, 1, none⟩ v1) b T #[v0, v1, z2, z3, z4, z5, z6, z7, z8] := h0.set 1 v1
  have h2 : Bx (((w.setCell ⟨b, 0, none⟩ v0).setCell ⟨b, 1, none⟩ v1).setCell ⟨b, 2, none⟩ v2) b T #[v0, v1, v2, z3, z4, z5, z6, z7, z8] := h1.set 2 v2
  have h3 : Bx ((((w.setCell ⟨b, 0, none⟩ v0).setCell ⟨b, 1, none⟩ v1).setCell ⟨b, 2, none⟩ v2).setCell ⟨b, 3, none⟩ v3) b T #[v0, v1, v2, v3, z4, z5, z6, z7, z8] := h2.set 3 v3
  have h4 : Bx (((((w.setCell ⟨b, 0, none⟩ v0).setCell ⟨b, 1, none⟩ v1).setCell ⟨b, 2, none⟩ v2).setCell ⟨b, 3, none⟩ v3).setCell ⟨b, 4, none⟩ v4) b T #[v0, v1, v2, v3, v4, z5, z6, z7, z8] := h3.set 4 v4
  have h5 : Bx ((((((w.setCell ⟨b, 0, none⟩ v0).setCell ⟨b, 1, none⟩ v1).setCell ⟨b, 2, none⟩ v2).setCell ⟨b, 3, none⟩ v3).setCell ⟨b, 4, none⟩ v4).setCell ⟨b, 5, none⟩ v5) b T #[v0, v1, v2, v3, v4, v5, z6, z7, z8] := h4.set 5 v5
  have h6 : Bx (((((((w.setCell ⟨b, 0, none⟩ v0).setCell ⟨b, 1, none⟩ v1).setCell ⟨b, 2, none⟩ v2).setCell ⟨b, 3, none⟩ v3).setCell ⟨b, 4, none⟩ v4).setCell ⟨b, 5, none⟩ v5).setCell ⟨b, 6, none⟩ v6) b T #[v0, v1, v2, v3, v4, v5, v6, z7, z8] := h5.set 6 v6
  have h7 : Bx ((((((((w.setCell ⟨b, 0, none⟩ v0).setCell ⟨b, 1, none⟩ v1).setCell ⟨b, 2, none⟩ v2).setCell ⟨b, 3, none⟩ v3).setCell ⟨b, 4, none⟩ v4).setCell ⟨b, 5, none⟩ v5).setCell ⟨b, 6, none⟩ v6).setCell ⟨b, 7, none⟩ v7) b T #[v0, v1, v2, v3, v4, v5, v6, v7, z8] := h6.set 7 v7
  have h8 : Bx (((((((((w.setCell ⟨b, 0, none⟩ v0).setCell ⟨b, 1, none⟩ v1).setCell ⟨b, 2, none⟩ v2).setCell ⟨b, 3, none⟩ v3).setCell ⟨b, 4, none⟩ v4).setCell ⟨b, 5, none⟩ v5).setCell ⟨b, 6, none⟩ v6).setCell ⟨b, 7, none⟩ v7).setCell ⟨b, 8, none⟩ v8) b T #[v0, v1, v2, v3, v4, v5, v6, v7, v8] := h7.set 8 v8
  exact h8
theorem bx_put9_other {w : World} {b b' : Nat} {T : TypeId} {cs : Array Value} (h : Bx w b T cs) (hne : b ≠ b') (v0 v1 v2 v3 v4 v5 v6 v7 v8 : Value) : Bx (put9 w b' v0 v1 v2 v3 v4 v5 v6 v7 v8) b T cs :=
  ((((((((h.other (a := ⟨b', 0, none⟩) hne v0).other (a := ⟨b', 1, none⟩) hne v1).other (a := ⟨b', 2, none⟩) hne v2).other (a := ⟨b', 3, none⟩) hne v3).other (a := ⟨b', 4, none⟩) hne v4).other (a := ⟨b', 5, none⟩) hne v5).other (a := ⟨b', 6, none⟩) hne v6).other (a := ⟨b', 7, none⟩) hne v7).other (a := ⟨b', 8, none⟩) hne v8
theorem below_put9 {B : Nat} {a w : World} {b : Nat} (h : Below B a w) (hb : B ≤ b) (v0 v1 v2 v3 v4 v5 v6 v7 v8 : Value) : Below B a (put9 w b v0 v1 v2 v3 v4 v5 v6 v7 v8) :=
  ((((((((h.setCell (p := ⟨b, 0, none⟩) hb v0).setCell (p := ⟨b, 1, none⟩) hb v1).setCell (p := ⟨b, 2, none⟩) hb v2).setCell (p := ⟨b, 3, none⟩) hb v3).setCell (p := ⟨b, 4, none⟩) hb v4).setCell (p := ⟨b, 5, none⟩) hb v5).setCell (p := ⟨b, 6, none⟩) hb v6).setCell (p := ⟨b, 7, none⟩) hb v7).setCell (p := ⟨b, 8, none⟩) hb v8
set_option maxHeartbeats 12800000 in
set_option maxRecDepth 100000 in
theorem treeWhole_any (p : Option Addr) (n c : Nat) (xs : List NV) (pn : Option Addr) (nn cn : Nat) (nm : List ByteArray) (at_ : Int) (w : World) (hn : n = xs.length) (hnI : (n : Int) ≤ 9223372036854775807) (hnil : p = none → c = 0) (hnc : n ≤ c) (hcm : c ≤ 9223372036854775807) (hp : SlN w p xs) (hf : ∀ x ∈ xs, x.nd.kids.length ≤ 9223372036854775807 ∧ x.nd.set.length ≤ 9223372036854775807) (hk : KindsIn xs) (hnn : nn = nm.length) (hnnI : (nn : Int) ≤ 9223372036854775807) (hnc2 : nn ≤ cn) (hX : SlX w pn nm) (hz : ∀ x ∈ nm, x.size ≤ 9223372036854775807) :
    Calls Tryz.prog 3 #[.agg #[.slice p n c, .slice pn nn cn], .int .i64 at_] w fun e w' => e = .returned (.bool true) ∧ Below w.heap.size w w' := by
  obtain ⟨W1, hW1⟩ : ∃ W, W = w.alloc (.cells #[.slice p n c, .slice pn nn cn] 25) := ⟨_, rfl⟩
  obtain ⟨b0, hb0⟩ : ∃ b, b = w.heap.size := ⟨_, rfl⟩
  have hB1 : Below w.heap.size w W1 := by rw [hW1]; exact bl_alloc _ _
  have hT1 : Bx W1 b0 25 #[.slice p n c, .slice pn nn cn] := by rw [hW1, hb0]; exact Bx.new w _ _
  have HA := Lib.hid (awake_any W1)
  have HW1 := Lib.hid (And.intro hW1 hb0)
  have HT1 := Lib.hid hT1
  have HB1 := Lib.hid hB1
  have HP1 := Lib.hid (And.intro (hp.below hB1) (hX.below hB1))
  have HN := Lib.hid (And.intro hn (And.intro hnI (And.intro hf (And.intro hk (And.intro hnn (And.intro hnnI (And.intro hnc2 hz)))))))
  have HC := Lib.hid (And.intro hnil (And.intro hnc hcm))
  clear hn hnI hnil hnc hcm hp hf hk hnn hnnI hnc2 hX hz hW1 hb0 hB1 hT1
  go_enter Tryz.func3, Tryz.ntmps3
  go_wp2_with fail
  rw [← HW1.out.2, show w.alloc (.cells #[.slice p n c, .slice pn nn cn] 25) = W1 from HW1.out.1.symm]
  refine (HA.out).mono ?_
  rintro e w1 ⟨rfl, hb1⟩
  obtain ⟨w2, hw2⟩ : ∃ W, W = w1.alloc (.cells #[.slice p n c, .slice pn nn cn] 25) := ⟨_, rfl⟩
  have hb2 : Below w1.heap.size w1 w2 := by rw [hw2]; exact bl_alloc _ _
  have hX2 : Bx w2 w1.heap.size 25 #[.slice p n c, .slice pn nn cn] := by rw [hw2]; exact Bx.new w1 _ _
  have hb12 : Below W1.heap.size W1 w2 := hb1.trans (hb2.mono hb1.size)
  have hT2 := HT1.out.below hb1
  have cT0 : w1.cell? ⟨b0, 0, none⟩ = some (.slice p n c) := hT2.cell rfl
  have cT1 : w1.cell? ⟨b0, 1, none⟩ = some (.slice pn nn cn) := hT2.cell rfl
  have HG := Lib.hid (great1_any w1.heap.size p n c xs pn nn cn nm w2 (hX2.cell rfl) (hX2.cell rfl) HN.out.1 HN.out.2.1 (HP1.out.1.below hb12) HN.out.2.2.1 HN.out.2.2.2.2.1 HN.out.2.2.2.2.2.1 (HP1.out.2.below hb12) HN.out.2.2.2.2.2.2.2)
  have HW2 := Lib.hid hw2
  have HB12 := Lib.hid hb12
  clear hb1 hb2 hX2 hb12 hT2 hw2
  go_wp2_with fail
  rw [← HW2.out]
  refine (HG.out).mono ?_
  rintro e w3 ⟨⟨g, rfl, hg⟩, hb3⟩
  have HB13 := Lib.hid (HB12.out.trans (hb3.mono HB12.out.size))
  have HGS := Lib.hid hg
  clear hg hb3 cT0 cT1
  cases g with
  | true =>
    go_wp2
    go_ret
    exact ⟨rfl, HB1.out.trans (HB13.out.mono HB1.out.size)⟩
  | false =>
    have hsm := HGS.out (by first | rfl | trivial)
    have hfew : Few xs := fun x hx => by have := hsm.2.2 x hx; omega
    have hT3 := HT1.out.below HB13.out
    have cT0 : w3.cell? ⟨b0, 0, none⟩ = some (.slice p n c) := hT3.cell rfl
    have cT1 : w3.cell? ⟨b0, 1, none⟩ = some (.slice pn nn cn) := hT3.cell rfl
    have hT3 := HT1.out.below HB13.out
    have cT0 : w3.cell? ⟨b0, 0, none⟩ = some (.slice p n c) := hT3.cell rfl
    have cT1 : w3.cell? ⟨b0, 1, none⟩ = some (.slice pn nn cn) := hT3.cell rfl
    have HT3 := Lib.hid hT3
    have HP3 := Lib.hid (HP1.out.1.below HB13.out)
    have hn3 : n ≤ 3000 := hsm.2.1
    obtain ⟨dp, hdp⟩ : ∃ d, d = deepT (nds xs) := ⟨_, rfl⟩
    have HKI : Hid (∀ V, Below w3.drew.heap.size w3.drew V → Calls Tryz.prog 6 #[.agg #[.slice p n c, .slice pn nn cn]] V (KidsPost V (kidsT (nds xs)))) := fun V hV =>
      kids_any p n c xs (.slice pn nn cn) V HN.out.1 (by omega) HC.out.2.1 HC.out.2.2 (HP3.out.below ((bl_drew w3).trans (hV.mono (bl_drew w3).size))) hfew
    have HDE : Hid (∀ V, Below w3.drew.heap.size w3.drew V → Calls Tryz.prog 7 #[.agg #[.slice p n c, .slice pn nn cn]] V fun e w' => e = .returned (.int .i64 (dp : Nat)) ∧ Below V.heap.size V w') := fun V hV => by
      rw [hdp]; exact deepT_any p n c xs (.slice pn nn cn) V HN.out.1 (by omega) (HP3.out.below ((bl_drew w3).trans (hV.mono (bl_drew w3).size))) hfew
    have HD := Lib.hid hdp
    have HSM := Lib.hid (And.intro hsm (And.intro hfew hn3))
    clear hdp hsm hfew hT3 hn3
    go_wp2
    refine wp_region_L (S := fun (V : World) => V.cell? ⟨b0, 0, none⟩ = some (.slice p n c) ∧ V.cell? ⟨b0, 1, none⟩ = some (.slice pn nn cn)) (S2 := fun (V : World) => V.cell? ⟨b0, 0, none⟩ = some (.slice p n c) ∧ V.cell? ⟨b0, 1, none⟩ = some (.slice pn nn cn)) 5 5 (by kernel_rfl) ?_
    have hS : (fun (V : World) => V.cell? ⟨b0, 0, none⟩ = some (.slice p n c) ∧ V.cell? ⟨b0, 1, none⟩ = some (.slice pn nn cn)) w3.drew := ⟨cT0, cT1⟩
    have hbz : Below w3.heap.size w3 w3.drew := bl_drew w3
    obtain ⟨W0, hW0⟩ : ∃ W, W = w3.drew := ⟨_, rfl⟩
    rw [← hW0] at hS HKI HDE hbz ⊢
    have HBZ := Lib.hid hbz
    have hS2 := hS
    have HBW0 : Hid (Below W0.heap.size W0 W0) := Below.refl _ _
    clear cT0 cT1 hW0 hbz
    refine anyL_take1 (i := 0) (oi := { dst := some 22, op := Op.load 25 (Operand.tmp 2), type := 25, pos := "outright.go:19", after := #[], guard := none }) (u := ?_) rfl (by kernel_rfl) (fun _ _ _ h => h) (Or.inl ⟨by kernel_rfl, ?_⟩) ⟨fun _ => hS, fun _ => hS2⟩ ?_
    rotate_left
    focus (intro w hSw; (try dsimp only at hSw); go_simp; with_reducible rfl)
    try simp only [Act.put, List.setIfInBounds_toArray, List.set_cons_zero, List.set_cons_succ]
    refine anyL_take1 (i := 2) (oi := { dst := some 24, op := Op.load 25 (Operand.tmp 2), type := 25, pos := "outright.go:19", after := #[], guard := none }) (u := ?_) rfl (by kernel_rfl) (fun _ _ _ h => h) (Or.inl ⟨by kernel_rfl, ?_⟩) ⟨fun _ => hS, fun _ => hS2⟩ ?_
    rotate_left
    focus (intro w hSw; (try dsimp only at hSw); go_simp; with_reducible rfl)
    try simp only [Act.put, List.setIfInBounds_toArray, List.set_cons_zero, List.set_cons_succ]
    refine anyL_one (i := 1) (o := { dst := some 23, op := Op.call { callee := Callee.value (Operand.func 6), args := #[Operand.tmp 22], argTypes := #[25] }, type := 28, pos := "outright.go:19", after := #[{ on := 0, ground := Ground.data }], guard := none }) (by kernel_rfl) rfl (fun K hK => ?_)
    go_simp
    refine (HKI.out W0 HBW0.out).mono ?_
    rintro e v1 ⟨qk, mk, ck, ts, hmk, rfl, hot, htn, hna, hbv1⟩
    have HOT := Lib.hid (And.intro hmk (And.intro hot (And.intro htn hna)))
    clear hmk hot htn hna
    have HBv1 := Lib.hid (HBW0.out.trans (hbv1.mono HBW0.out.size))
    have HCv1 := Lib.hid hbv1
    have hSv1 : (fun (V : World) => V.cell? ⟨b0, 0, none⟩ = some (.slice p n c) ∧ V.cell? ⟨b0, 1, none⟩ = some (.slice pn nn cn)) v1 := ⟨cell_below hS.1 hbv1, cell_below hS.2 hbv1⟩
    refine hK.out _ _ ⟨fun _ => hSv1, fun _ => hSv1⟩ ?_
    clear hK K hS hS2 hbv1
    have hS := hSv1
    have hS2 := hSv1
    clear hSv1
    try simp only [Act.put, List.setIfInBounds_toArray, List.set_cons_zero, List.set_cons_succ]
    refine anyL_one (i := 3) (o := { dst := some 25, op := Op.call { callee := Callee.value (Operand.func 7), args := #[Operand.tmp 24], argTypes := #[25] }, type := 3, pos := "outright.go:19", after := #[{ on := 2, ground := Ground.data }, { on := 1, ground := Ground.chain }], guard := none }) (by kernel_rfl) rfl (fun K hK => ?_)
    go_simp
    refine (HDE.out v1 HBv1.out).mono ?_
    rintro e v2 ⟨rfl, hbv2⟩
    have HBv2 := Lib.hid (HBv1.out.trans (hbv2.mono HBv1.out.size))
    have HCv2 := Lib.hid hbv2
    have hSv2 : (fun (V : World) => V.cell? ⟨b0, 0, none⟩ = some (.slice p n c) ∧ V.cell? ⟨b0, 1, none⟩ = some (.slice pn nn cn)) v2 := ⟨cell_below hS.1 hbv2, cell_below hS.2 hbv2⟩
    refine hK.out _ _ ⟨fun _ => hSv2, fun _ => hSv2⟩ ?_
    clear hK K hS hS2 hbv2
    have hS := hSv2
    have hS2 := hSv2
    clear hSv2
    try simp only [Act.put, List.setIfInBounds_toArray, List.set_cons_zero, List.set_cons_succ]
    refine anyL_one (i := 4) (o := { dst := some 5, op := Op.assign (Operand.tmp 23), type := 28, pos := "outright.go:19", after := #[{ on := 1, ground := Ground.data }, { on := 3, ground := Ground.chain }, { on := 0, ground := Ground.phase }, { on := 1, ground := Ground.phase }, { on := 2, ground := Ground.textOnly Departure.lateStores }, { on := 3, ground := Ground.textOnly Departure.lateStoresUnsure }], guard := none }) (by kernel_rfl) rfl (fun K hK => ?_)
    go_simp
    refine hK.out _ _ ⟨fun _ => hS, fun _ => hS⟩ ?_
    clear hK K
    try simp only [Act.put, List.setIfInBounds_toArray, List.set_cons_zero, List.set_cons_succ]
    refine anyL_one (i := 5) (o := { dst := some 6, op := Op.assign (Operand.tmp 25), type := 3, pos := "outright.go:19", after := #[{ on := 3, ground := Ground.data }, { on := 4, ground := Ground.chain }, { on := 0, ground := Ground.phase }, { on := 1, ground := Ground.phase }, { on := 2, ground := Ground.phase }, { on := 3, ground := Ground.phase }, { on := 4, ground := Ground.phase }], guard := none }) (by kernel_rfl) rfl (fun K hK => ?_)
    go_simp
    refine hK.out _ _ ⟨fun h => absurd h (by decide), fun h => absurd h (by decide)⟩ ?_
    clear hK K hS hS2
    try simp only [Act.put, List.setIfInBounds_toArray, List.set_cons_zero, List.set_cons_succ]
    refine anyL_done (by kernel_rfl) (show onlyN _ .normal _ _ from ?_) _
    dsimp only [onlyN]
    have HB32 : Hid (Below w3.heap.size w3 v2) := HBZ.out.trans (HBv2.out.mono HBZ.out.size)
    have hT4 := HT3.out.below HB32.out
    have cT0 : v2.cell? ⟨b0, 0, none⟩ = some (.slice p n c) := hT4.cell rfl
    have cT1 : v2.cell? ⟨b0, 1, none⟩ = some (.slice pn nn cn) := hT4.cell rfl
    have HT4 := Lib.hid hT4
    have HP4 := Lib.hid (HP3.out.below HB32.out)
    have HB14 := Lib.hid (HB13.out.trans (HB32.out.mono HB13.out.size))
    have hnI : (n : Int) ≤ 3000 := by have := HSM.out.2.2; omega
    clear hT4
    by_cases hd0 : dp = 0
    · have hk0 : kidsT (nds xs) = [] := by unfold kidsT; rw [deep_zero (HD.out.symm.trans hd0)]
      have ho0 : ofT (nds xs) at_ = [] := by unfold ofT; rw [deep_zero (HD.out.symm.trans hd0)]
      have hmk0 : mk = 0 := by
        have h := HOT.out.2.2.1
        rw [hk0] at h
        have h2 := congrArg List.length h
        unfold treesN at h2
        rw [List.length_map] at h2
        rw [HOT.out.1]; exact h2
      have HOF := Lib.hid (of_any p n c xs (.slice pn nn cn) at_ v2 HN.out.1 (by omega) HC.out.2.1 HC.out.2.2 HP4.out HSM.out.2.1)
      rw [ho0] at HOF
      subst hd0
      subst hmk0
      clear hk0 ho0
      go_wp2_with fail
      refine (HOF.out).mono ?_
      rintro e v3 ⟨q3, m3, c3, ys3, hm3, rfl, _, hy3, hb3⟩
      have hm30 : m3 = 0 := by rw [hm3, ← nds_length, hy3]; rfl
      subst hm30
      have HB5 := Lib.hid (HB14.out.trans (hb3.mono HB14.out.size))
      have hfd : ∀ W : World, (Instr.field 25 (.agg #[.slice q3 0 c3, .slice none 0 0]) 0).run Tryz.prog W = .ok (.slice q3 0 c3) W := fun _ => by kernel_rfl
      clear hm3 hy3 hb3
      go_wp2
      go_ret
      exact ⟨rfl, HB1.out.trans (HB5.out.mono HB1.out.size)⟩
    · obtain ⟨lo, hlo⟩ := deep_some (L := nds xs) (fun h => hd0 (HD.out.trans h))
      have HO := Lib.hid hlo
      have hlen := ordT_len hlo
      rw [nds_length, ← HN.out.1] at hlen
      have hn1 : (1 : Int) ≤ n := by omega
      have e0 : ((dp : Int) == 0) = false := by simpa using hd0
      obtain ⟨j, hj⟩ : ∃ j, j = n - 1 := ⟨_, rfl⟩
      have hjx : j < xs.length := by have := HN.out.1; omega
      obtain ⟨bn, on, rfl, hcj, hinj⟩ := HP4.out.at hjx
      obtain ⟨x, hx⟩ : ∃ x, x = gn xs j := ⟨_, rfl⟩
      rw [← hx] at hcj hinj
      have hfx := HSM.out.2.1 _ (gn_mem hjx)
      rw [← hx] at hfx
      obtain ⟨ls, lk, hls, hlk, hlit⟩ := node_lit2 x
      obtain ⟨c0, c1, c2, c3, c4, c5, c6, c7, c8⟩ := hcj
      rw [← hls] at c1
      rw [← hlk] at c2
      have hjI : (n : Int) - 1 = (j : Nat) := by omega
      have hjk : (j : Int) < n := by omega
      have hxn : x.nd = (nds xs).getD ((nds xs).length - 1) nd0 := by
        rw [nds_length, show xs.length - 1 = j by rw [← HN.out.1]; exact hj.symm, gn_nd hjx, hx]
      have HXJ := Lib.hid (And.intro hxn (And.intro hinj (And.intro hfx (And.intro hls (And.intro hlk hlit)))))
      have HJ := Lib.hid hj
      -- the kids that came in
      obtain ⟨hmk, hot, htn, hna⟩ := HOT.out
      obtain ⟨p', c', e', hle', hmx', hnil', hst⟩ := hot.form
      rw [← hmk] at e' hle'
      obtain ⟨rfl, rfl⟩ : qk = p' ∧ ck = c' := by simpa using e'
      have hlk2 : lk = mk := by
        rw [hlk, hxn, ← kids_len hlo, ← htn, hmk]; unfold treesN; rw [List.length_map]
      subst hlk2
      have hmkn : lk ≤ n := by
        have h1 := hfx.1
        have h2 := size_kids hlo htn
        have h3 : ts.length ≤ sizeT ts := by
          have hall : ∀ t ∈ ts, 1 ≤ t.ys.length := fun t ht => by
            obtain ⟨i, hi, rfl⟩ := List.getElem_of_mem ht
            have hk : nds (ts[i]).ys ∈ kidsT (nds xs) := htn ▸ List.mem_map.2 ⟨ts[i], ht, rfl⟩
            obtain ⟨i2, hi2, e2⟩ := List.getElem_of_mem hk
            obtain ⟨l2, h3⟩ := deep_some (L := (kidsT (nds xs))[i2]) (by have := (kids_deep hlo hi2).1; omega)
            have := (ordT_len h3).1
            rw [e2, nds_length] at this
            exact this
          clear h1 h2 hmk htn hna hot hst HOT
          induction ts with
          | nil => simp
          | cons a ts ih =>
            rw [sizeT_cons, List.length_cons]
            have := hall a (by simp)
            have := ih (fun t ht => hall t (List.mem_cons_of_mem _ ht))
            omega
        rw [nds_length, ← HN.out.1] at h2
        omega
      have hmI : (lk : Int) ≤ 3000 := by omega
      have HTS : Hid (lk = ts.length ∧ SlT v2 qk ts ∧ treesN ts = kidsT (nds xs) ∧ Bare ts ∧ FewT ts ∧ sizeT ts + 1 = n) := ⟨hmk, hst.below HCv2.out, htn, hna, fewT_kids htn (few_small HSM.out.2.1), by rw [size_kids hlo htn, nds_length]; exact HN.out.1.symm⟩
      clear hlo hlen hx hxn hinj hfx hls hlk hlit hot hst htn hna hmk e' hle' hmx' hnil' hj
      obtain ⟨w5, hw5⟩ : ∃ W, W = v2.alloc (.cells #[.int .u8 x.nd.kind, .slice x.ps ls x.cs, .slice x.pk lk x.ck, .int .i64 x.nd.group, .int .i64 x.nd.mn, .int .i64 x.nd.mx, .int .u8 x.nd.mode, .int .u8 x.nd.spot, .bool x.nd.neg] 38) := ⟨_, rfl⟩
      have hb5 : Below v2.heap.size v2 w5 := by rw [hw5]; exact bl_alloc _ _
      have hL5 : Bx w5 v2.heap.size 38 #[.int .u8 x.nd.kind, .slice x.ps ls x.cs, .slice x.pk lk x.ck, .int .i64 x.nd.group, .int .i64 x.nd.mn, .int .i64 x.nd.mx, .int .u8 x.nd.mode, .int .u8 x.nd.spot, .bool x.nd.neg] := by rw [hw5]; exact Bx.new v2 _ _
      have hs5 : w5.heap.size = v2.heap.size + 1 := by rw [hw5, World.size_alloc]
      obtain ⟨w6, hw6⟩ : ∃ W, W = w5.alloc (.cells #[.slice (some ⟨bn, on, none⟩) n c, .slice none 0 0] 25) := ⟨_, rfl⟩
      have hb6 : Below w5.heap.size w5 w6 := by rw [hw6]; exact bl_alloc _ _
      have hB6 : Bx w6 w5.heap.size 25 #[.slice (some ⟨bn, on, none⟩) n c, .slice none 0 0] := by rw [hw6]; exact Bx.new w5 _ _
      have hb26 : Below v2.heap.size v2 w6 := bl_trans hb5 hb6
      rw [hs5] at hB6
      have hL6 := hL5.below hb6
      have hT5 := HT4.out.below hb5
      have f0 : (v2.alloc (.cells #[.int .u8 x.nd.kind, .slice x.ps ls x.cs, .slice x.pk lk x.ck, .int .i64 x.nd.group, .int .i64 x.nd.mn, .int .i64 x.nd.mx, .int .u8 x.nd.mode, .int .u8 x.nd.spot, .bool x.nd.neg] 38)).cell? ⟨b0, 0, none⟩ = some (.slice (some ⟨bn, on, none⟩) n c) := by rw [← hw5]; exact hT5.cell rfl
      have f1 : (v2.alloc (.cells #[.int .u8 x.nd.kind, .slice x.ps ls x.cs, .slice x.pk lk x.ck, .int .i64 x.nd.group, .int .i64 x.nd.mn, .int .i64 x.nd.mx, .int .u8 x.nd.mode, .int .u8 x.nd.spot, .bool x.nd.neg] 38)).cell? ⟨b0, 1, none⟩ = some (.slice pn nn cn) := by rw [← hw5]; exact hT5.cell rfl
      have HWE : Hid ((v2.alloc (.cells #[.int .u8 x.nd.kind, .slice x.ps ls x.cs, .slice x.pk lk x.ck, .int .i64 x.nd.group, .int .i64 x.nd.mn, .int .i64 x.nd.mx, .int .u8 x.nd.mode, .int .u8 x.nd.spot, .bool x.nd.neg] 38)).alloc (.cells #[.slice (some ⟨bn, on, none⟩) n c, .slice none 0 0] 25) = w6) := by show _ = _; rw [← hw5, ← hw6]
      obtain ⟨l0, l1, l2, l3, l4, l5, l6, l7, l8⟩ := nine hL6
      rw [hw6, hw5] at l0 l1 l2 l3 l4 l5 l6 l7 l8
      have HJN : Hid (Calls Tryz.prog 9 #[.agg #[.int .u8 x.nd.kind, .slice x.ps ls x.cs, .slice x.pk lk x.ck, .int .i64 x.nd.group, .int .i64 x.nd.mn, .int .i64 x.nd.mx, .int .u8 x.nd.mode, .int .u8 x.nd.spot, .bool x.nd.neg], .slice qk lk ck] w6 (JPost (nds xs) w6)) := by
        have h := join_any x qk lk ck ts w6 (HXJ.out.2.1.below hb26) HXJ.out.2.2.1.2 HTS.out.1 (HTS.out.2.1.below hb26) HTS.out.2.2.2.2.1 (by omega) (by have := HTS.out.2.2.2.2.2; omega)
        have hlit := HXJ.out.2.2.2.2.2
        unfold NodeLit at hlit
        have hjt : joinT x.nd (treesN ts) = nds xs := by rw [HXJ.out.1, HTS.out.2.2.1, join_kids HO.out]
        rw [hlit, hjt] at h
        refine h.mono ?_
        rintro e w' ⟨q, m, cq, ys, hm, rfl, ho, hy, hb⟩
        exact ⟨q, m, cq, ys, rfl, th_own hm ho hy, hb⟩
      have HL6 := Lib.hid hL6
      have HB6 := Lib.hid hB6
      have HB26 := Lib.hid hb26
      have HS5 := Lib.hid hs5
      clear hw5 hb5 hL5 hs5 hw6 hb6 hB6 hb26 hL6 hT5 HKI HDE hd0
      go_wp2_with fail
      rw [HWE.out]
      obtain ⟨bl, hbl⟩ : ∃ b, b = v2.heap.size := ⟨_, rfl⟩
      obtain ⟨bb, hbb⟩ : ∃ b, b = bl + 1 := ⟨_, rfl⟩
      rw [← hbl, ← hbb]
      rw [← hbl] at HL6
      rw [← hbl, ← hbb] at HB6
      clear hbl hbb HWE f0 f1 l0 l1 l2 l3 l4 l5 l6 l7 l8 c0 c1 c2 c3 c4 c5 c6 c7 c8
      refine (HJN.out).mono ?_
      rintro e w7 ⟨q7, m7, cq7, y7, rfl, ht7, hb7⟩
      have hL7 := HL6.out.below hb7
      have hB7 := HB6.out.below hb7
      have hb27 : Below v2.heap.size v2 w7 := bl_trans HB26.out hb7
      obtain ⟨w8, hw8⟩ : ∃ W, W = w7.alloc (.cells #[.slice q7 m7 cq7, .slice none 0 0] 25) := ⟨_, rfl⟩
      have hb8 : Below w7.heap.size w7 w8 := by rw [hw8]; exact bl_alloc _ _
      have hK8 : Bx w8 w7.heap.size 25 #[.slice q7 m7 cq7, .slice none 0 0] := by rw [hw8]; exact Bx.new w7 _ _
      have hL8 := hL7.below hb8
      have hB8 := hB7.below hb8
      have hb28 : Below v2.heap.size v2 w8 := bl_trans hb27 hb8
      have ht8 := ht7.below hb8
      obtain ⟨bk, hbk⟩ : ∃ b, b = w7.heap.size := ⟨_, rfl⟩
      have g0 : (w7.alloc (.cells #[.slice q7 m7 cq7, .slice none 0 0] 25)).cell? ⟨w7.heap.size, 0, none⟩ = some (.slice q7 m7 cq7) := by rw [← hw8]; exact hK8.cell rfl
      have g1 : (w7.alloc (.cells #[.slice q7 m7 cq7, .slice none 0 0] 25)).cell? ⟨w7.heap.size, 1, none⟩ = some (.slice none 0 0) := by rw [← hw8]; exact hK8.cell rfl
      have g2 : (w7.alloc (.cells #[.slice q7 m7 cq7, .slice none 0 0] 25)).cell? ⟨bb, 0, none⟩ = some (.slice (some ⟨bn, on, none⟩) n c) := by rw [← hw8]; exact hB8.cell rfl
      have g3 : (w7.alloc (.cells #[.slice q7 m7 cq7, .slice none 0 0] 25)).cell? ⟨bb, 1, none⟩ = some (.slice none 0 0) := by rw [← hw8]; exact hB8.cell rfl
      have HW8 : Hid (w7.alloc (.cells #[.slice q7 m7 cq7, .slice none 0 0] 25) = w8) := hw8.symm
      have hfew7 : Few y7 := few_nds ht7.nds (few_small HSM.out.2.1)
      have hlen7 : m7 = n := by rw [ht7.leng, nds_length]; exact HN.out.1.symm
      have hs := same6_any q7 (some ⟨bn, on, none⟩) none none m7 n cq7 c 0 0 0 0 y7 xs [] [] w8 ht7.len HN.out.1 (by omega) ht8.nodes (HP4.out.below hb28) hfew7 HSM.out.2.1 rfl rfl (Nat.zero_le _) (Nat.zero_le _) (slx_nil _) (slx_nil _)
      rw [sameT_self ht7.nds] at hs
      have HSA := Lib.hid hs
      have HT7 := Lib.hid ht8
      have HK8 := Lib.hid hK8
      have HL8 := Lib.hid hL8
      have HB8 := Lib.hid hB8
      have HB28 := Lib.hid hb28
      have HF7 := Lib.hid (And.intro hfew7 hlen7)
      have HBK := Lib.hid hbk
      clear hs hw8 hb7 hL7 hB7 hb27 hb8 hK8 hL8 hB8 hb28 ht7 ht8 hfew7 hlen7 hbk
      go_wp2_with fail
      rw [HW8.out, ← HBK.out]
      refine (HSA.out).mono ?_
      rintro e w9 ⟨rfl, hb9⟩
      have HK8' : Hid (Bx w8 bk 25 #[.slice q7 m7 cq7, .slice none 0 0]) := by rw [HBK.out]; exact HK8
      have HK9 := Lib.hid (HK8'.out.below hb9)
      have HB29 := Lib.hid (bl_trans HB28.out hb9)
      have HT9 := Lib.hid (HT7.out.below hb9)
      have HL9 := Lib.hid (HL8.out.below hb9)
      have HBB9 := Lib.hid (HB8.out.below hb9)
      have k0 := HK9.out.cell (i := 0) rfl
      have k1 := HK9.out.cell (i := 1) rfl
      clear hb9 g0 g1 g2 g3
      have hk := kids_any q7 m7 cq7 y7 (.slice none 0 0) w9 HT9.out.len (by have := HF7.out.2; omega) HT9.out.le HT9.out.max HT9.out.nodes HF7.out.1
      rw [HT9.out.nds] at hk
      have HKD := Lib.hid hk
      clear hk
      go_wp2_with fail
      refine (HKD.out).mono ?_
      rintro e w10 ⟨q10, m10, c10, t10, hm10, rfl, ho10, hn10, hna10, hb10⟩
      have hm10' : m10 = lk := by
        have h1 : (treesN t10).length = (treesN ts).length := by rw [hn10, HTS.out.2.2.1]
        unfold treesN at h1
        rw [List.length_map, List.length_map] at h1
        rw [hm10, h1]; exact HTS.out.1.symm
      subst hm10'
      obtain ⟨p10, d10, e10, _, _, _, hst10⟩ := ho10.form
      rw [← hm10] at e10
      obtain ⟨rfl, rfl⟩ : q10 = p10 ∧ c10 = d10 := by simpa using e10
      have HB2a := Lib.hid (bl_trans HB29.out hb10)
      have HST := Lib.hid (sameTrees_any q10 qk m10 c10 ck t10 ts w10 hm10 HTS.out.1 (by omega) hst10 (HTS.out.2.1.below HB2a.out) (fewT_kids hn10 (few_small HSM.out.2.1)) HTS.out.2.2.2.2.1 (fun t ht => by
        have h1 := sizeT_mem ht
        have h2 := size_kids HO.out hn10
        rw [nds_length, ← HN.out.1] at h2
        omega) hna10 HTS.out.2.2.2.1 (hn10.trans HTS.out.2.2.1.symm))
      have HLa := Lib.hid (HL9.out.below hb10)
      have HBBa := Lib.hid (HBB9.out.below hb10)
      clear k0 k1 hm10 ho10 hn10 hna10 e10 hst10 hb10
      go_wp2_with fail
      refine (HST.out).mono ?_
      rintro e w11 ⟨rfl, hb11⟩
      have HB2b := Lib.hid (bl_trans HB2a.out hb11)
      have HBBb := Lib.hid (HBBa.out.below hb11)
      have k2 := (HLa.out.below hb11).cell (i := 2) rfl
      clear hb11
      go_wp2
      go_loopw [10, 11, 12] (fun nv iv dv wr => ∃ (k z : Nat), k ≤ m10 ∧ iv = .int .i64 (k : Nat) ∧ nv = .int .i64 (z : Nat) ∧ Hid (z = 1 + sizeT (ts.take k)) ∧ Hid (Below w11.heap.size w11 wr)) (fun _ iv _ _ => m10 - (intOf iv).toNat)
      case atStart => exact ⟨0, 1, Nat.zero_le _, rfl, rfl, rfl, Below.refl _ _⟩
      case round =>
        obtain ⟨k, z, hk, rfl, rfl, HZ, HW⟩ := hrel
        rename World => wr
        have HB2r := Lib.hid (bl_trans HB2b.out HW.out)
        clear k2
        by_cases hkm : k < m10
        · have hkx : k < ts.length := by have := HTS.out.1; omega
          have hkI : (k : Int) < m10 := by omega
          obtain ⟨b, o, rfl, d0, d1, hin⟩ := (HTS.out.2.1.below HB2r.out).at hkx
          have e1 := HTS.out.2.2.2.1 _ (gt_mem hkx)
          rw [e1.1, e1.2.1, e1.2.2] at d1
          have HSZ := Lib.hid (sizeT_take hkx)
          have hle := sizeT_le (ts := ts) (k + 1)
          have hft := HTS.out.2.2.2.2.1 _ (gt_mem hkx)
          have hkd : 1 ≤ deepT (nds (gt ts k).ys) ∧ deepT (nds (gt ts k).ys) < dp := by
            have hk2 : k < (kidsT (nds xs)).length := by rw [← HTS.out.2.2.1]; unfold treesN; rw [List.length_map]; exact hkx
            have h1 := kids_deep HO.out hk2
            have e2 : (kidsT (nds xs))[k] = nds (gt ts k).ys := by
              have h3 : (treesN ts)[k]? = (kidsT (nds xs))[k]? := by rw [HTS.out.2.2.1]
              unfold treesN at h3
              rw [List.getElem?_map, List.getElem?_eq_getElem hkx, List.getElem?_eq_getElem hk2] at h3
              rw [gt_get hkx]
              exact (Option.some.inj h3).symm
            rw [e2] at h1
            rw [HD.out]; exact h1
          obtain ⟨y, hy⟩ : ∃ t, t = gt ts k := ⟨_, rfl⟩
          rw [← hy] at d0 hin HSZ hft hkd
          obtain ⟨my, hmy⟩ : ∃ m, m = y.ys.length := ⟨_, rfl⟩
          have hsz1 := HSZ.out
          have hsum := HTS.out.2.2.2.2.2
          rw [← hmy] at d0 hsz1
          have HD3 := deepT_any y.q my y.cq y.ys (.slice none 0 0) wr hmy (by omega) hin.nodes hft
          obtain ⟨dk, hdk⟩ : ∃ d, d = deepT (nds y.ys) := ⟨_, rfl⟩
          rw [← hdk] at HD3 hkd
          have HDK := Lib.hid HD3
          have hz1 := HZ.out
          have hwz : IntKind.i64.wrap ((z : Int) + my) = ((z + my : Nat) : Int) := by rw [IntKind.wrap_i64]; omega
          have hwk : IntKind.i64.wrap ((k : Nat) + 1 : Int) = (k : Nat) + 1 := by rw [IntKind.wrap_i64]; omega
          have q1 : decide ((dk : Int) < 1) = false := by simp; omega
          have q2 : decide ((dp : Int) ≤ dk) = false := by simp; omega
          have HZ2 : Hid (z + my = 1 + sizeT (ts.take (k + 1))) := by show _ = _; omega
          clear HD3 hz1 hsz1 hsum hle hft hin hy hmy hdk e1 hkx
          go_wp2_with fail
          refine (HDK.out).mono ?_
          rintro e w12 ⟨rfl, hb12⟩
          have HB12' := Lib.hid (bl_trans HW.out hb12)
          clear hb12 d0 d1
          go_wp2
          go_roundw
          case rel => exact ⟨k + 1, z + my, by omega, by go_num, by go_num, HZ2.out, HB12'.out⟩
          case measure => simp [intOf]; omega
        · obtain rfl : k = m10 := by omega
          have hkI : (k : Int) ≤ k := by omega
          have hzn : z = n := by
            have h := HZ.out
            rw [List.take_of_length_le (by have := HTS.out.1; omega)] at h
            have := HTS.out.2.2.2.2.2
            omega
          subst hzn
          have hTr := HT4.out.below HB2r.out
          have cT0 : wr.cell? ⟨b0, 0, none⟩ = some (.slice (some ⟨bn, on, none⟩) z c) := hTr.cell rfl
          have cT1 : wr.cell? ⟨b0, 1, none⟩ = some (.slice pn nn cn) := hTr.cell rfl
          have HPI := Lib.hid (pick_any at_ z wr (by omega) (by omega))
          clear hTr
          go_wp2_with fail
          refine (HPI.out).mono ?_
          rintro e wr2 ⟨kk, rfl, hkk, rfl⟩
          have HKK := Lib.hid hkk
          have hkn : kk < (nds xs).length := by rw [nds_length, ← HN.out.1]; exact hkk
          have hof := of_any (some ⟨bn, on, none⟩) z c xs (.slice pn nn cn) (kk : Nat) wr HN.out.1 (by omega) HC.out.2.1 HC.out.2.2 (HP4.out.below HB2r.out) HSM.out.2.1
          have HOF := Lib.hid hof
          have HKN := Lib.hid hkn
          clear hof hkn hkk
          go_wp2_with fail
          refine (HOF.out).mono ?_
          rintro e wu ⟨q, m, cq, ys, hm, rfl, hou, hyu, hbu⟩
          have htu := th_own hm hou hyu
          obtain ⟨wv, hwv⟩ : ∃ W, W = wu.alloc (.cells #[.slice q m cq, .slice none 0 0] 25) := ⟨_, rfl⟩
          have hbv : Below wu.heap.size wu wv := by rw [hwv]; exact bl_alloc _ _
          have hbrv : Below wr.heap.size wr wv := bl_trans hbu hbv
          have hXv : Bx wv wu.heap.size 25 #[.slice q m cq, .slice none 0 0] := by rw [hwv]; exact Bx.new wu _ _
          have hb2v : Below v2.heap.size v2 wv := bl_trans HB2r.out hbrv
          have hbd : Below wv.heap.size wv wv.drew := bl_drew wv
          obtain ⟨bu, hbu2⟩ : ∃ b, b = wu.heap.size := ⟨_, rfl⟩
          rw [← hbu2] at hXv
          have htd := (htu.below hbv).below hbd
          have hTd := (HT4.out.below hb2v).below hbd
          have hBd := ((HBBb.out.below HW.out).below hbrv).below hbd
          have hXd := hXv.below hbd
          obtain ⟨du, hdu⟩ : ∃ d, d = deepT (ofT (nds xs) (kk : Nat)) := ⟨_, rfl⟩
          have hdd := of_deep HO.out HKN.out
          rw [← hdu, ← HD.out] at hdd
          have hfu : Few ys := few_nds hyu (smallNds_of (few_small HSM.out.2.1) _)
          have hlu := of_len HO.out HKN.out
          rw [← hyu, nds_length, nds_length, ← hm, ← HN.out.1] at hlu
          have hdeep : ∀ V, Below wv.drew.heap.size wv.drew V → Calls Tryz.prog 7 #[.agg #[.slice q m cq, .slice none 0 0]] V fun e w' => e = .returned (.int .i64 (du : Nat)) ∧ Below V.heap.size V w' := fun V hV => by
            have h := deepT_any q m cq ys (.slice none 0 0) V hm (by omega) (htd.nodes.below hV) hfu
            rw [hyu, ← hdu] at h
            exact h
          have hofl : ∀ V, Below wv.drew.heap.size wv.drew V → Calls Tryz.prog 8 #[.agg #[.slice (some ⟨bn, on, none⟩) z c, .slice pn nn cn], .int .i64 ((z : Int) - 1)] V (JPost (nds xs) V) := fun V hV => by
            have h := of_any (some ⟨bn, on, none⟩) z c xs (.slice pn nn cn) ((z : Int) - 1) V HN.out.1 (by omega) HC.out.2.1 HC.out.2.2 ((HP4.out.below (bl_trans hb2v hbd)).below hV) HSM.out.2.1
            have e : ofT (nds xs) ((z : Int) - 1) = nds xs := by
              have h2 := of_last HO.out
              rw [nds_length, ← HN.out.1] at h2
              exact h2
            rw [e] at h
            refine h.mono ?_
            rintro e w' ⟨q', m', cq', ys', hm', rfl, ho', hy', hb'⟩
            exact ⟨q', m', cq', ys', rfl, th_own hm' ho' hy', hb'⟩
          have hsame : ∀ V q' m' cq' ys', Below wv.drew.heap.size wv.drew V → TH V q' m' cq' ys' (nds xs) → Calls Tryz.prog 10 #[.agg #[.slice q' m' cq', .slice none 0 0], .agg #[.slice (some ⟨bn, on, none⟩) z c, .slice none 0 0]] V fun e w' => e = .returned (.bool true) ∧ Below V.heap.size V w' := fun V q' m' cq' ys' hV ht => by
            have h := same6_any q' (some ⟨bn, on, none⟩) none none m' z cq' c 0 0 0 0 ys' xs [] [] V ht.len HN.out.1 (by rw [ht.leng, nds_length, ← HN.out.1]; omega) ht.nodes ((HP4.out.below (bl_trans hb2v hbd)).below hV) (few_nds ht.nds (few_small HSM.out.2.1)) HSM.out.2.1 rfl rfl (Nat.zero_le _) (Nat.zero_le _) (slx_nil _) (slx_nil _)
            rw [sameT_self ht.nds] at h
            exact h
          have hd1 : decide ((du : Int) < 1) = false := by simp; omega
          have hwz : IntKind.i64.wrap ((z : Int) - 1) = (z : Int) - 1 := by rw [IntKind.wrap_i64]; omega
          have HWV : Hid (wu.alloc (.cells #[.slice q m cq, .slice none 0 0] 25) = wv) := hwv.symm
          have HBU2 := Lib.hid hbu2
          have HBV := Lib.hid hb2v
          have HTU := Lib.hid (And.intro (htu.below hbv) (And.intro hfu hlu))
          have HXV := Lib.hid hXv
          clear hwv hbv hbu hbu2 hm hou
          go_wp2
          rw [HWV.out, ← HBU2.out]
          refine whole24_wp (some ⟨bn, on, none⟩) pn q z c nn cn m cq b0 bu bb dp du (nds xs) (z := 0) (Nat.zero_le _) (by rfl) (by rfl) (by rfl) (by rfl) (by rfl) (by rfl) (hTd.cell rfl) (hTd.cell rfl) (hXd.cell rfl) (hXd.cell rfl) (hBd.cell rfl) (hBd.cell rfl) hd1 (by omega) hwz hdeep hofl hsame ?_ 24
          intro f24 wy hkk hby
          have e26 : f24 26 = .bool false := hkk 26 (by decide) (by decide)
          rw [e26]
          have hvy : Below wv.heap.size wv wy := bl_trans hbd hby
          have HVY := Lib.hid hvy
          clear hkk hby e26 hd1 hdeep hofl hsame htd hTd hBd hXd hdd hdu hyu htu hbrv hXv hb2v hbd hvy hwz hfu hlu
          generalize f24 0 = g0, f24 1 = g1, f24 2 = g2, f24 3 = g3, f24 4 = g4, f24 5 = g5, f24 6 = g6, f24 7 = g7, f24 8 = g8, f24 9 = g9, f24 10 = g10, f24 11 = g11, f24 12 = g12, f24 13 = g13, f24 14 = g14, f24 15 = g15, f24 16 = g16, f24 17 = g17, f24 18 = g18, f24 19 = g19, f24 20 = g20, f24 21 = g21, f24 22 = g22, f24 23 = g23, f24 24 = g24, f24 25 = g25
          simp only [putL, List.foldl, Act.put, List.setIfInBounds_toArray, List.set_cons_zero, List.set_cons_succ]
          clear f24
          have hm1 := HTU.out.2.2.1
          have hmz := HTU.out.2.2.2
          obtain ⟨ju, hju⟩ : ∃ j, j = m - 1 := ⟨_, rfl⟩
          have hjuy : ju < ys.length := by rw [← HTU.out.1.len]; omega
          have hkx : kk < xs.length := by have := HKN.out; rw [nds_length] at this; exact this
          obtain ⟨bq, oq, rfl, hcu, hinu⟩ := (HTU.out.1.nodes.below HVY.out).at hjuy
          obtain ⟨bn', on', hne, hct, hint⟩ := (HP4.out.below (bl_trans HBV.out HVY.out)).at hkx
          cases hne
          obtain ⟨d, hend⟩ := of_end HO.out HKN.out
          have hun : (gn ys ju).nd = mv d (gn xs kk).nd := by
            rw [← HTU.out.1.nds, nds_length, ← HTU.out.1.len, ← hju, gn_nd hjuy, gn_nd hkx] at hend
            exact hend
          have hft := HSM.out.2.1 _ (gn_mem hkx)
          obtain ⟨X, hX⟩ : ∃ x, x = gn xs kk := ⟨_, rfl⟩
          obtain ⟨U, hU⟩ : ∃ x, x = gn ys ju := ⟨_, rfl⟩
          rw [← hX] at hct hint hun hft
          rw [← hU] at hcu hinu hun
          have ek : U.nd.kind = X.nd.kind := by rw [hun]; rfl
          have eg : U.nd.group = X.nd.group := by rw [hun]; rfl
          have es : U.nd.set = X.nd.set := by rw [hun]; rfl
          have el : U.nd.kids.length = X.nd.kids.length := by rw [hun]; show (X.nd.kids.map _).length = _; rw [List.length_map]
          obtain ⟨a0, a1, a2, a3, a4, a5, a6, a7, a8⟩ := hct
          obtain ⟨u0, u1, u2, u3, u4', u5, u6, u7, u8⟩ := hcu
          rw [ek] at u0
          rw [es] at u1
          rw [el] at u2
          rw [eg] at u3
          obtain ⟨kd, hkd⟩ : ∃ v, v = X.nd.kind := ⟨_, rfl⟩
          obtain ⟨gr, hgr⟩ : ∃ v, v = X.nd.group := ⟨_, rfl⟩
          obtain ⟨ls', hls'⟩ : ∃ v, v = X.nd.set.length := ⟨_, rfl⟩
          obtain ⟨lk', hlk'⟩ : ∃ v, v = X.nd.kids.length := ⟨_, rfl⟩
          rw [← hkd] at a0 u0
          rw [← hls'] at a1 u1
          rw [← hlk'] at a2 u2
          rw [← hgr] at a3 u3
          have HSR : Hid (∀ V, Below wy.heap.size wy V → Calls Tryz.prog 13 #[.slice U.ps ls' U.cs, .slice X.ps ls' X.cs] V fun e w' => e = .returned (.bool true) ∧ Below V.heap.size V w') := fun V hV => by
            have h := same_any U.ps X.ps U.cs X.cs X.nd.set X.nd.set V (es ▸ hinu.set.below hV) (hint.set.below hV) (by have := hft.2; omega) (by have := hft.2; omega)
            rw [← hls', decide_eq_true rfl] at h
            refine h.mono ?_
            rintro e w' ⟨h1, k', rfl⟩
            exact ⟨h1, drewN_below V k'⟩
          have hbu0 : wy.cell? ⟨bu, 0, none⟩ = some (.slice (some ⟨bq, oq, none⟩) m cq) := (HXV.out.below HVY.out).cell rfl
          have hbt0 : wy.cell? ⟨b0, 0, none⟩ = some (.slice (some ⟨bn, on, none⟩) z c) := ((HT4.out.below HBV.out).below HVY.out).cell rfl
          have hjuI : (m : Int) - 1 = (ju : Nat) := by omega
          have hjuk : (ju : Int) < m := by omega
          have hm1I : (1 : Int) ≤ m := by omega
          have hkkI : (kk : Int) < z := by have := HKK.out; omega
          have hmI2 : (m : Int) ≤ 3000 := by omega
          have hwju : IntKind.i64.wrap (ju : Int) = (ju : Int) := by rw [IntKind.wrap_i64]; omega
          clear hft hend hun ek eg es el hkd hgr hls' hlk' hX hU hinu hint hkx hjuy hju hm1 hmz cT0 cT1
          go_wp2
          refine wp_region_L (S := fun (V : World) => V.cell? ⟨bu, 0, none⟩ = some (.slice (some ⟨bq, oq, none⟩) m cq) ∧ V.cell? ⟨b0, 0, none⟩ = some (.slice (some ⟨bn, on, none⟩) z c) ∧ V.cell? ⟨bq, oq + ju * 9, none⟩ = some (.int .u8 kd) ∧ V.cell? ⟨bq, oq + ju * 9 + 1, none⟩ = some (.slice U.ps ls' U.cs) ∧ V.cell? ⟨bq, oq + ju * 9 + 2, none⟩ = some (.slice U.pk lk' U.ck) ∧ V.cell? ⟨bq, oq + ju * 9 + 3, none⟩ = some (.int .i64 gr) ∧ V.cell? ⟨bq, oq + ju * 9 + 4, none⟩ = some (.int .i64 U.nd.mn) ∧ V.cell? ⟨bq, oq + ju * 9 + 5, none⟩ = some (.int .i64 U.nd.mx) ∧ V.cell? ⟨bq, oq + ju * 9 + 6, none⟩ = some (.int .u8 U.nd.mode) ∧ V.cell? ⟨bq, oq + ju * 9 + 7, none⟩ = some (.int .u8 U.nd.spot) ∧ V.cell? ⟨bq, oq + ju * 9 + 8, none⟩ = some (.bool U.nd.neg) ∧ V.cell? ⟨bn, on + kk * 9, none⟩ = some (.int .u8 kd) ∧ V.cell? ⟨bn, on + kk * 9 + 1, none⟩ = some (.slice X.ps ls' X.cs) ∧ V.cell? ⟨bn, on + kk * 9 + 2, none⟩ = some (.slice X.pk lk' X.ck) ∧ V.cell? ⟨bn, on + kk * 9 + 3, none⟩ = some (.int .i64 gr) ∧ V.cell? ⟨bn, on + kk * 9 + 4, none⟩ = some (.int .i64 X.nd.mn) ∧ V.cell? ⟨bn, on + kk * 9 + 5, none⟩ = some (.int .i64 X.nd.mx) ∧ V.cell? ⟨bn, on + kk * 9 + 6, none⟩ = some (.int .u8 X.nd.mode) ∧ V.cell? ⟨bn, on + kk * 9 + 7, none⟩ = some (.int .u8 X.nd.spot) ∧ V.cell? ⟨bn, on + kk * 9 + 8, none⟩ = some (.bool X.nd.neg)) (S2 := fun (V : World) => V.cell? ⟨bu, 0, none⟩ = some (.slice (some ⟨bq, oq, none⟩) m cq) ∧ V.cell? ⟨b0, 0, none⟩ = some (.slice (some ⟨bn, on, none⟩) z c) ∧ V.cell? ⟨bq, oq + ju * 9, none⟩ = some (.int .u8 kd) ∧ V.cell? ⟨bq, oq + ju * 9 + 1, none⟩ = some (.slice U.ps ls' U.cs) ∧ V.cell? ⟨bq, oq + ju * 9 + 2, none⟩ = some (.slice U.pk lk' U.ck) ∧ V.cell? ⟨bq, oq + ju * 9 + 3, none⟩ = some (.int .i64 gr) ∧ V.cell? ⟨bq, oq + ju * 9 + 4, none⟩ = some (.int .i64 U.nd.mn) ∧ V.cell? ⟨bq, oq + ju * 9 + 5, none⟩ = some (.int .i64 U.nd.mx) ∧ V.cell? ⟨bq, oq + ju * 9 + 6, none⟩ = some (.int .u8 U.nd.mode) ∧ V.cell? ⟨bq, oq + ju * 9 + 7, none⟩ = some (.int .u8 U.nd.spot) ∧ V.cell? ⟨bq, oq + ju * 9 + 8, none⟩ = some (.bool U.nd.neg) ∧ V.cell? ⟨bn, on + kk * 9, none⟩ = some (.int .u8 kd) ∧ V.cell? ⟨bn, on + kk * 9 + 1, none⟩ = some (.slice X.ps ls' X.cs) ∧ V.cell? ⟨bn, on + kk * 9 + 2, none⟩ = some (.slice X.pk lk' X.ck) ∧ V.cell? ⟨bn, on + kk * 9 + 3, none⟩ = some (.int .i64 gr) ∧ V.cell? ⟨bn, on + kk * 9 + 4, none⟩ = some (.int .i64 X.nd.mn) ∧ V.cell? ⟨bn, on + kk * 9 + 5, none⟩ = some (.int .i64 X.nd.mx) ∧ V.cell? ⟨bn, on + kk * 9 + 6, none⟩ = some (.int .u8 X.nd.mode) ∧ V.cell? ⟨bn, on + kk * 9 + 7, none⟩ = some (.int .u8 X.nd.spot) ∧ V.cell? ⟨bn, on + kk * 9 + 8, none⟩ = some (.bool X.nd.neg)) 15 16 (by kernel_rfl) ?_
          have hS : (fun (V : World) => V.cell? ⟨bu, 0, none⟩ = some (.slice (some ⟨bq, oq, none⟩) m cq) ∧ V.cell? ⟨b0, 0, none⟩ = some (.slice (some ⟨bn, on, none⟩) z c) ∧ V.cell? ⟨bq, oq + ju * 9, none⟩ = some (.int .u8 kd) ∧ V.cell? ⟨bq, oq + ju * 9 + 1, none⟩ = some (.slice U.ps ls' U.cs) ∧ V.cell? ⟨bq, oq + ju * 9 + 2, none⟩ = some (.slice U.pk lk' U.ck) ∧ V.cell? ⟨bq, oq + ju * 9 + 3, none⟩ = some (.int .i64 gr) ∧ V.cell? ⟨bq, oq + ju * 9 + 4, none⟩ = some (.int .i64 U.nd.mn) ∧ V.cell? ⟨bq, oq + ju * 9 + 5, none⟩ = some (.int .i64 U.nd.mx) ∧ V.cell? ⟨bq, oq + ju * 9 + 6, none⟩ = some (.int .u8 U.nd.mode) ∧ V.cell? ⟨bq, oq + ju * 9 + 7, none⟩ = some (.int .u8 U.nd.spot) ∧ V.cell? ⟨bq, oq + ju * 9 + 8, none⟩ = some (.bool U.nd.neg) ∧ V.cell? ⟨bn, on + kk * 9, none⟩ = some (.int .u8 kd) ∧ V.cell? ⟨bn, on + kk * 9 + 1, none⟩ = some (.slice X.ps ls' X.cs) ∧ V.cell? ⟨bn, on + kk * 9 + 2, none⟩ = some (.slice X.pk lk' X.ck) ∧ V.cell? ⟨bn, on + kk * 9 + 3, none⟩ = some (.int .i64 gr) ∧ V.cell? ⟨bn, on + kk * 9 + 4, none⟩ = some (.int .i64 X.nd.mn) ∧ V.cell? ⟨bn, on + kk * 9 + 5, none⟩ = some (.int .i64 X.nd.mx) ∧ V.cell? ⟨bn, on + kk * 9 + 6, none⟩ = some (.int .u8 X.nd.mode) ∧ V.cell? ⟨bn, on + kk * 9 + 7, none⟩ = some (.int .u8 X.nd.spot) ∧ V.cell? ⟨bn, on + kk * 9 + 8, none⟩ = some (.bool X.nd.neg)) wy.drew := ⟨hbu0, hbt0, u0, u1, u2, u3, u4', u5, u6, u7, u8, a0, a1, a2, a3, a4, a5, a6, a7, a8⟩
          have hbd : Below wy.heap.size wy wy.drew := bl_drew wy
          obtain ⟨WZ, hWZ⟩ : ∃ W, W = wy.drew := ⟨_, rfl⟩
          rw [← hWZ] at hS hbd ⊢
          have HYZ := Lib.hid hbd
          have HSZ := Lib.hid hS
          have hS2 := hS
          have HBWZ : Hid (Below WZ.heap.size WZ WZ) := Below.refl _ _
          clear hWZ hbd hbu0 hbt0 u0 u1 u2 u3 u4' u5 u6 u7 u8 a0 a1 a2 a3 a4 a5 a6 a7 a8
          refine anyL_take1 (i := 0) (oi := { dst := some 132, op := Op.fieldAddr 25 (Operand.tmp 14) 0, type := 0, pos := "outright.go:42", after := #[], guard := none }) (u := ?_) rfl (by kernel_rfl) (fun _ _ _ h => h) (Or.inl ⟨by kernel_rfl, ?_⟩) ⟨fun _ => hS, fun _ => hS2⟩ ?_
          rotate_left
          focus (intro w hSw; (try dsimp only at hSw); go_simp; with_reducible rfl)
          try simp only [Act.put, List.setIfInBounds_toArray, List.set_cons_zero, List.set_cons_succ]
          refine anyL_take1 (i := 1) (oi := { dst := some 133, op := Op.load 22 (Operand.tmp 132), type := 22, pos := "outright.go:42", after := #[{ on := 0, ground := Ground.data }], guard := none }) (u := ?_) rfl (by kernel_rfl) (fun _ _ _ h => h) (Or.inl ⟨by kernel_rfl, ?_⟩) ⟨fun _ => hS, fun _ => hS2⟩ ?_
          rotate_left
          focus (intro w hSw; (try dsimp only at hSw); go_simp; with_reducible rfl)
          try simp only [Act.put, List.setIfInBounds_toArray, List.set_cons_zero, List.set_cons_succ]
          refine anyL_take1 (i := 2) (oi := { dst := some 134, op := Op.fieldAddr 25 (Operand.tmp 14) 0, type := 0, pos := "outright.go:42", after := #[], guard := none }) (u := ?_) rfl (by kernel_rfl) (fun _ _ _ h => h) (Or.inl ⟨by kernel_rfl, ?_⟩) ⟨fun _ => hS, fun _ => hS2⟩ ?_
          rotate_left
          focus (intro w hSw; (try dsimp only at hSw); go_simp; with_reducible rfl)
          try simp only [Act.put, List.setIfInBounds_toArray, List.set_cons_zero, List.set_cons_succ]
          refine anyL_take1 (i := 3) (oi := { dst := some 135, op := Op.load 22 (Operand.tmp 134), type := 22, pos := "outright.go:42", after := #[{ on := 2, ground := Ground.data }], guard := none }) (u := ?_) rfl (by kernel_rfl) (fun _ _ _ h => h) (Or.inl ⟨by kernel_rfl, ?_⟩) ⟨fun _ => hS, fun _ => hS2⟩ ?_
          rotate_left
          focus (intro w hSw; (try dsimp only at hSw); go_simp; with_reducible rfl)
          try simp only [Act.put, List.setIfInBounds_toArray, List.set_cons_zero, List.set_cons_succ]
          refine anyL_take1 (i := 4) (oi := { dst := some 136, op := Op.call { callee := Callee.builtin Builtin.len, args := #[Operand.tmp 135], argTypes := #[22] }, type := 3, pos := "outright.go:42", after := #[{ on := 3, ground := Ground.data }], guard := none }) (u := ?_) rfl (by kernel_rfl) (fun _ _ _ h => h) (Or.inl ⟨by kernel_rfl, ?_⟩) ⟨fun _ => hS, fun _ => hS2⟩ ?_
          rotate_left
          focus (intro w hSw; (try dsimp only at hSw); go_simp; with_reducible rfl)
          try simp only [Act.put, List.setIfInBounds_toArray, List.set_cons_zero, List.set_cons_succ]
          refine anyL_take1 (i := 5) (oi := { dst := some 137, op := Op.binOp BinOp.sub 3 (Operand.tmp 136) (Operand.const (Value.int IntKind.i64 1)) 3, type := 3, pos := "outright.go:42", after := #[{ on := 4, ground := Ground.data }], guard := none }) (u := ?_) rfl (by kernel_rfl) (fun _ _ _ h => h) (Or.inl ⟨by kernel_rfl, ?_⟩) ⟨fun _ => hS, fun _ => hS2⟩ ?_
          rotate_left
          focus (intro w hSw; (try dsimp only at hSw); go_simp; with_reducible rfl)
          try simp only [Act.put, List.setIfInBounds_toArray, List.set_cons_zero, List.set_cons_succ]
          refine anyL_take1 (i := 6) (oi := { dst := some 138, op := Op.indexAddr 22 (Operand.tmp 133) (Operand.tmp 137), type := 0, pos := "outright.go:42", after := #[{ on := 1, ground := Ground.data }, { on := 5, ground := Ground.data }], guard := none }) (u := ?_) rfl (by kernel_rfl) (fun _ _ _ h => h) (Or.inl ⟨by kernel_rfl, ?_⟩) ⟨fun _ => hS, fun _ => hS2⟩ ?_
          rotate_left
          focus (intro w hSw; (try dsimp only at hSw); go_simp; with_reducible rfl)
          try simp only [Act.put, List.setIfInBounds_toArray, List.set_cons_zero, List.set_cons_succ]
          refine anyL_take1 (i := 7) (oi := { dst := some 139, op := Op.load 38 (Operand.tmp 138), type := 38, pos := "outright.go:42", after := #[{ on := 6, ground := Ground.data }], guard := none }) (u := ?_) rfl (by kernel_rfl) (fun _ _ _ h => h) (Or.inl ⟨by kernel_rfl, ?_⟩) ⟨fun _ => hS, fun _ => hS2⟩ ?_
          rotate_left
          focus (intro w hSw; (try dsimp only at hSw); go_simp; with_reducible rfl)
          try simp only [Act.put, List.setIfInBounds_toArray, List.set_cons_zero, List.set_cons_succ]
          refine anyL_take2 (i := 8) (oi := { dst := some 140, op := Op.fieldAddr 25 (Operand.tmp 2) 0, type := 0, pos := "outright.go:42", after := #[{ on := 15, ground := Ground.gcOnly Departure.lateStores }], guard := none }) (u := ?_) rfl (by kernel_rfl) (fun _ _ _ h => h) (Or.inl ⟨by kernel_rfl, ?_⟩) ⟨fun _ => hS, fun _ => hS2⟩ ?_
          rotate_left
          focus (intro w hSw; (try dsimp only at hSw); go_simp; with_reducible rfl)
          try simp only [Act.put, List.setIfInBounds_toArray, List.set_cons_zero, List.set_cons_succ]
          refine anyL_take2 (i := 9) (oi := { dst := some 141, op := Op.load 22 (Operand.tmp 140), type := 22, pos := "outright.go:42", after := #[{ on := 8, ground := Ground.data }, { on := 15, ground := Ground.gcOnly Departure.lateStores }], guard := none }) (u := ?_) rfl (by kernel_rfl) (fun _ _ _ h => h) (Or.inl ⟨by kernel_rfl, ?_⟩) ⟨fun _ => hS, fun _ => hS2⟩ ?_
          rotate_left
          focus (intro w hSw; (try dsimp only at hSw); go_simp; with_reducible rfl)
          try simp only [Act.put, List.setIfInBounds_toArray, List.set_cons_zero, List.set_cons_succ]
          refine anyL_take2 (i := 10) (oi := { dst := some 142, op := Op.move (Operand.tmp 13), type := 3, pos := "outright.go:42", after := #[{ on := 15, ground := Ground.gcOnly Departure.lateStores }], guard := none }) (u := ?_) rfl (by kernel_rfl) (fun _ _ _ h => h) (Or.inl ⟨by kernel_rfl, ?_⟩) ⟨fun _ => hS, fun _ => hS2⟩ ?_
          rotate_left
          focus (intro w hSw; (try dsimp only at hSw); go_simp; with_reducible rfl)
          try simp only [Act.put, List.setIfInBounds_toArray, List.set_cons_zero, List.set_cons_succ]
          refine anyL_take2 (i := 11) (oi := { dst := some 143, op := Op.indexAddr 22 (Operand.tmp 141) (Operand.tmp 142), type := 0, pos := "outright.go:42", after := #[{ on := 9, ground := Ground.data }, { on := 10, ground := Ground.data }, { on := 15, ground := Ground.gcOnly Departure.lateStores }], guard := none }) (u := ?_) rfl (by kernel_rfl) (fun _ _ _ h => h) (Or.inl ⟨by kernel_rfl, ?_⟩) ⟨fun _ => hS, fun _ => hS2⟩ ?_
          rotate_left
          focus (intro w hSw; (try dsimp only at hSw); go_simp; with_reducible rfl)
          try simp only [Act.put, List.setIfInBounds_toArray, List.set_cons_zero, List.set_cons_succ]
          refine anyL_take2 (i := 12) (oi := { dst := some 144, op := Op.load 38 (Operand.tmp 143), type := 38, pos := "outright.go:42", after := #[{ on := 11, ground := Ground.data }, { on := 15, ground := Ground.gcOnly Departure.lateStores }], guard := none }) (u := ?_) rfl (by kernel_rfl) (fun _ _ _ h => h) (Or.inl ⟨by kernel_rfl, ?_⟩) ⟨fun _ => hS, fun _ => hS2⟩ ?_
          rotate_left
          focus (intro w hSw; (try dsimp only at hSw); go_simp; with_reducible rfl)
          try simp only [Act.put, List.setIfInBounds_toArray, List.set_cons_zero, List.set_cons_succ]
          clear hS hS2
          refine anyL_two (i := 13) (k := 14) (o := { dst := some 15, op := Op.alloc 38, type := 0, pos := "outright.go:42", after := #[], guard := none }) (o' := { dst := some 16, op := Op.alloc 38, type := 0, pos := "outright.go:42", after := #[], guard := none }) (by kernel_rfl) rfl rfl (fun K hK => ?_) (fun K hK => ?_)
          · skip
            go_simp
            obtain ⟨y1, hwy1⟩ : ∃ V, V = WZ.alloc (.cells #[.int .u8 0, .slice none 0 0, .slice none 0 0, .int .i64 0, .int .i64 0, .int .i64 0, .int .u8 0, .int .u8 0, .bool false] 38) := ⟨_, rfl⟩
            rw [← hwy1]
            have hby1 : Below WZ.heap.size WZ y1 := by rw [hwy1]; exact bl_alloc _ _
            have HBy1 : Hid (Below WZ.heap.size WZ y1) := bl_trans HBWZ.out hby1
            have hxy1 : Bx y1 WZ.heap.size 38 #[.int .u8 0, .slice none 0 0, .slice none 0 0, .int .i64 0, .int .i64 0, .int .i64 0, .int .u8 0, .int .u8 0, .bool false] := by rw [hwy1]; exact Bx.new _ _ _
            have HSy1 : Hid (y1.heap.size = WZ.heap.size + 1) := by show _ = _; rw [hwy1, World.size_alloc]
            obtain ⟨be, hb_be⟩ : ∃ b, b = WZ.heap.size := ⟨_, rfl⟩
            rw [← hb_be] at hxy1 ⊢
            have HXbe := Lib.hid hxy1
            have HEbe := Lib.hid hb_be
            have HCy1 := Lib.hid hby1
            clear hwy1 hby1 hxy1 hb_be
            have hSy1 : (fun (V : World) => V.cell? ⟨bu, 0, none⟩ = some (.slice (some ⟨bq, oq, none⟩) m cq) ∧ V.cell? ⟨b0, 0, none⟩ = some (.slice (some ⟨bn, on, none⟩) z c) ∧ V.cell? ⟨bq, oq + ju * 9, none⟩ = some (.int .u8 kd) ∧ V.cell? ⟨bq, oq + ju * 9 + 1, none⟩ = some (.slice U.ps ls' U.cs) ∧ V.cell? ⟨bq, oq + ju * 9 + 2, none⟩ = some (.slice U.pk lk' U.ck) ∧ V.cell? ⟨bq, oq + ju * 9 + 3, none⟩ = some (.int .i64 gr) ∧ V.cell? ⟨bq, oq + ju * 9 + 4, none⟩ = some (.int .i64 U.nd.mn) ∧ V.cell? ⟨bq, oq + ju * 9 + 5, none⟩ = some (.int .i64 U.nd.mx) ∧ V.cell? ⟨bq, oq + ju * 9 + 6, none⟩ = some (.int .u8 U.nd.mode) ∧ V.cell? ⟨bq, oq + ju * 9 + 7, none⟩ = some (.int .u8 U.nd.spot) ∧ V.cell? ⟨bq, oq + ju * 9 + 8, none⟩ = some (.bool U.nd.neg) ∧ V.cell? ⟨bn, on + kk * 9, none⟩ = some (.int .u8 kd) ∧ V.cell? ⟨bn, on + kk * 9 + 1, none⟩ = some (.slice X.ps ls' X.cs) ∧ V.cell? ⟨bn, on + kk * 9 + 2, none⟩ = some (.slice X.pk lk' X.ck) ∧ V.cell? ⟨bn, on + kk * 9 + 3, none⟩ = some (.int .i64 gr) ∧ V.cell? ⟨bn, on + kk * 9 + 4, none⟩ = some (.int .i64 X.nd.mn) ∧ V.cell? ⟨bn, on + kk * 9 + 5, none⟩ = some (.int .i64 X.nd.mx) ∧ V.cell? ⟨bn, on + kk * 9 + 6, none⟩ = some (.int .u8 X.nd.mode) ∧ V.cell? ⟨bn, on + kk * 9 + 7, none⟩ = some (.int .u8 X.nd.spot) ∧ V.cell? ⟨bn, on + kk * 9 + 8, none⟩ = some (.bool X.nd.neg)) y1 := ⟨cell_below (HSZ.out.1) HBy1.out, cell_below (HSZ.out.2.1) HBy1.out, cell_below (HSZ.out.2.2.1) HBy1.out, cell_below (HSZ.out.2.2.2.1) HBy1.out, cell_below (HSZ.out.2.2.2.2.1) HBy1.out, cell_below (HSZ.out.2.2.2.2.2.1) HBy1.out, cell_below (HSZ.out.2.2.2.2.2.2.1) HBy1.out, cell_below (HSZ.out.2.2.2.2.2.2.2.1) HBy1.out, cell_below (HSZ.out.2.2.2.2.2.2.2.2.1) HBy1.out, cell_below (HSZ.out.2.2.2.2.2.2.2.2.2.1) HBy1.out, cell_below (HSZ.out.2.2.2.2.2.2.2.2.2.2.1) HBy1.out, cell_below (HSZ.out.2.2.2.2.2.2.2.2.2.2.2.1) HBy1.out, cell_below (HSZ.out.2.2.2.2.2.2.2.2.2.2.2.2.1) HBy1.out, cell_below (HSZ.out.2.2.2.2.2.2.2.2.2.2.2.2.2.1) HBy1.out, cell_below (HSZ.out.2.2.2.2.2.2.2.2.2.2.2.2.2.2.1) HBy1.out, cell_below (HSZ.out.2.2.2.2.2.2.2.2.2.2.2.2.2.2.2.1) HBy1.out, cell_below (HSZ.out.2.2.2.2.2.2.2.2.2.2.2.2.2.2.2.2.1) HBy1.out, cell_below (HSZ.out.2.2.2.2.2.2.2.2.2.2.2.2.2.2.2.2.2.1) HBy1.out, cell_below (HSZ.out.2.2.2.2.2.2.2.2.2.2.2.2.2.2.2.2.2.2.1) HBy1.out, cell_below (HSZ.out.2.2.2.2.2.2.2.2.2.2.2.2.2.2.2.2.2.2.2) HBy1.out⟩
            refine hK.out _ _ ⟨fun _ => hSy1, fun _ => hSy1⟩ ?_
            clear hK K hSy1
            try simp only [Act.put, List.setIfInBounds_toArray, List.set_cons_zero, List.set_cons_succ]
            refine anyL_one (i := 14) (o := { dst := some 16, op := Op.alloc 38, type := 0, pos := "outright.go:42", after := #[], guard := none }) (by kernel_rfl) rfl (fun K hK => ?_)
            go_simp
            obtain ⟨y2, hwy2⟩ : ∃ V, V = y1.alloc (.cells #[.int .u8 0, .slice none 0 0, .slice none 0 0, .int .i64 0, .int .i64 0, .int .i64 0, .int .u8 0, .int .u8 0, .bool false] 38) := ⟨_, rfl⟩
            rw [← hwy2]
            have hby2 : Below y1.heap.size y1 y2 := by rw [hwy2]; exact bl_alloc _ _
            have HBy2 : Hid (Below WZ.heap.size WZ y2) := bl_trans HBy1.out hby2
            have hxy2 : Bx y2 y1.heap.size 38 #[.int .u8 0, .slice none 0 0, .slice none 0 0, .int .i64 0, .int .i64 0, .int .i64 0, .int .u8 0, .int .u8 0, .bool false] := by rw [hwy2]; exact Bx.new _ _ _
            have HSy2 : Hid (y2.heap.size = y1.heap.size + 1) := by show _ = _; rw [hwy2, World.size_alloc]
            obtain ⟨bf, hb_bf⟩ : ∃ b, b = y1.heap.size := ⟨_, rfl⟩
            rw [← hb_bf] at hxy2 ⊢
            have HXbf := Lib.hid hxy2
            have HEbf := Lib.hid hb_bf
            have HCy2 := Lib.hid hby2
            clear hwy2 hby2 hxy2 hb_bf
            have hSy2 : (fun (V : World) => V.cell? ⟨bu, 0, none⟩ = some (.slice (some ⟨bq, oq, none⟩) m cq) ∧ V.cell? ⟨b0, 0, none⟩ = some (.slice (some ⟨bn, on, none⟩) z c) ∧ V.cell? ⟨bq, oq + ju * 9, none⟩ = some (.int .u8 kd) ∧ V.cell? ⟨bq, oq + ju * 9 + 1, none⟩ = some (.slice U.ps ls' U.cs) ∧ V.cell? ⟨bq, oq + ju * 9 + 2, none⟩ = some (.slice U.pk lk' U.ck) ∧ V.cell? ⟨bq, oq + ju * 9 + 3, none⟩ = some (.int .i64 gr) ∧ V.cell? ⟨bq, oq + ju * 9 + 4, none⟩ = some (.int .i64 U.nd.mn) ∧ V.cell? ⟨bq, oq + ju * 9 + 5, none⟩ = some (.int .i64 U.nd.mx) ∧ V.cell? ⟨bq, oq + ju * 9 + 6, none⟩ = some (.int .u8 U.nd.mode) ∧ V.cell? ⟨bq, oq + ju * 9 + 7, none⟩ = some (.int .u8 U.nd.spot) ∧ V.cell? ⟨bq, oq + ju * 9 + 8, none⟩ = some (.bool U.nd.neg) ∧ V.cell? ⟨bn, on + kk * 9, none⟩ = some (.int .u8 kd) ∧ V.cell? ⟨bn, on + kk * 9 + 1, none⟩ = some (.slice X.ps ls' X.cs) ∧ V.cell? ⟨bn, on + kk * 9 + 2, none⟩ = some (.slice X.pk lk' X.ck) ∧ V.cell? ⟨bn, on + kk * 9 + 3, none⟩ = some (.int .i64 gr) ∧ V.cell? ⟨bn, on + kk * 9 + 4, none⟩ = some (.int .i64 X.nd.mn) ∧ V.cell? ⟨bn, on + kk * 9 + 5, none⟩ = some (.int .i64 X.nd.mx) ∧ V.cell? ⟨bn, on + kk * 9 + 6, none⟩ = some (.int .u8 X.nd.mode) ∧ V.cell? ⟨bn, on + kk * 9 + 7, none⟩ = some (.int .u8 X.nd.spot) ∧ V.cell? ⟨bn, on + kk * 9 + 8, none⟩ = some (.bool X.nd.neg)) y2 := ⟨cell_below (HSZ.out.1) HBy2.out, cell_below (HSZ.out.2.1) HBy2.out, cell_below (HSZ.out.2.2.1) HBy2.out, cell_below (HSZ.out.2.2.2.1) HBy2.out, cell_below (HSZ.out.2.2.2.2.1) HBy2.out, cell_below (HSZ.out.2.2.2.2.2.1) HBy2.out, cell_below (HSZ.out.2.2.2.2.2.2.1) HBy2.out, cell_below (HSZ.out.2.2.2.2.2.2.2.1) HBy2.out, cell_below (HSZ.out.2.2.2.2.2.2.2.2.1) HBy2.out, cell_below (HSZ.out.2.2.2.2.2.2.2.2.2.1) HBy2.out, cell_below (HSZ.out.2.2.2.2.2.2.2.2.2.2.1) HBy2.out, cell_below (HSZ.out.2.2.2.2.2.2.2.2.2.2.2.1) HBy2.out, cell_below (HSZ.out.2.2.2.2.2.2.2.2.2.2.2.2.1) HBy2.out, cell_below (HSZ.out.2.2.2.2.2.2.2.2.2.2.2.2.2.1) HBy2.out, cell_below (HSZ.out.2.2.2.2.2.2.2.2.2.2.2.2.2.2.1) HBy2.out, cell_below (HSZ.out.2.2.2.2.2.2.2.2.2.2.2.2.2.2.2.1) HBy2.out, cell_below (HSZ.out.2.2.2.2.2.2.2.2.2.2.2.2.2.2.2.2.1) HBy2.out, cell_below (HSZ.out.2.2.2.2.2.2.2.2.2.2.2.2.2.2.2.2.2.1) HBy2.out, cell_below (HSZ.out.2.2.2.2.2.2.2.2.2.2.2.2.2.2.2.2.2.2.1) HBy2.out, cell_below (HSZ.out.2.2.2.2.2.2.2.2.2.2.2.2.2.2.2.2.2.2.2) HBy2.out⟩
            refine hK.out _ _ ⟨fun _ => hSy2, fun _ => hSy2⟩ ?_
            clear hK K hSy2
            try simp only [Act.put, List.setIfInBounds_toArray, List.set_cons_zero, List.set_cons_succ]
            have HXbe : Hid (Bx y2 be 38 #[.int .u8 0, .slice none 0 0, .slice none 0 0, .int .i64 0, .int .i64 0, .int .i64 0, .int .u8 0, .int .u8 0, .bool false]) := HXbe.out.below HCy2.out
            have HGbe : Hid (WZ.heap.size ≤ be) := by show _ ≤ _; rw [HEbe.out]; exact Nat.le_refl _
            have HGbf : Hid (WZ.heap.size ≤ bf) := by show _ ≤ _; rw [HEbf.out, HSy1.out]; omega
            have HNE : Hid (be ≠ bf) := by show _ ≠ _; rw [HEbe.out, HEbf.out, HSy1.out]; omega
            obtain ⟨x0, x1, x2, x3, x4, x5, x6, x7, x8⟩ := nine HXbe.out
            have fz0 := HXbe.out.free 0
            have fz1 := HXbe.out.free 1
            have fz2 := HXbe.out.free 2
            have fz3 := HXbe.out.free 3
            have fz4 := HXbe.out.free 4
            have fz5 := HXbe.out.free 5
            have fz6 := HXbe.out.free 6
            have fz7 := HXbe.out.free 7
            have fz8 := HXbe.out.free 8
            refine anyL_one (i := 15) (o := { dst := none, op := Op.store 38 (Operand.tmp 15) (Operand.tmp 139), type := 0, pos := "outright.go:42", after := #[{ on := 13, ground := Ground.data }, { on := 7, ground := Ground.data }, { on := 0, ground := Ground.phase }, { on := 1, ground := Ground.phase }, { on := 2, ground := Ground.phase }, { on := 3, ground := Ground.phase }, { on := 4, ground := Ground.phase }, { on := 5, ground := Ground.phase }, { on := 6, ground := Ground.phase }, { on := 7, ground := Ground.phase }, { on := 8, ground := Ground.textOnly Departure.lateStores }, { on := 9, ground := Ground.textOnly Departure.lateStores }, { on := 10, ground := Ground.textOnly Departure.lateStores }, { on := 11, ground := Ground.textOnly Departure.lateStores }, { on := 12, ground := Ground.textOnly Departure.lateStores }, { on := 13, ground := Ground.phase }, { on := 14, ground := Ground.phase }], guard := none }) (by kernel_rfl) rfl (fun K hK => ?_)
            go_simp
            obtain ⟨y3, hwy3⟩ : ∃ V, V = put9 y2 be (.int .u8 kd) (.slice U.ps ls' U.cs) (.slice U.pk lk' U.ck) (.int .i64 gr) (.int .i64 U.nd.mn) (.int .i64 U.nd.mx) (.int .u8 U.nd.mode) (.int .u8 U.nd.spot) (.bool U.nd.neg) := ⟨_, rfl⟩
            have HPy3 : Hid (put9 y2 be (.int .u8 kd) (.slice U.ps ls' U.cs) (.slice U.pk lk' U.ck) (.int .i64 gr) (.int .i64 U.nd.mn) (.int .i64 U.nd.mx) (.int .u8 U.nd.mode) (.int .u8 U.nd.spot) (.bool U.nd.neg) = y3) := hwy3.symm
            unfold put9 at hwy3
            rw [← hwy3]
            have HBy3 : Hid (Below WZ.heap.size WZ y3) := by show Below _ _ _; rw [← HPy3.out]; exact below_put9 HBy2.out HGbe.out _ _ _ _ _ _ _ _ _
            clear hwy3 x0 x1 x2 x3 x4 x5 x6 x7 x8 fz0 fz1 fz2 fz3 fz4 fz5 fz6 fz7 fz8
            have hSy3 : (fun (V : World) => V.cell? ⟨bu, 0, none⟩ = some (.slice (some ⟨bq, oq, none⟩) m cq) ∧ V.cell? ⟨b0, 0, none⟩ = some (.slice (some ⟨bn, on, none⟩) z c) ∧ V.cell? ⟨bq, oq + ju * 9, none⟩ = some (.int .u8 kd) ∧ V.cell? ⟨bq, oq + ju * 9 + 1, none⟩ = some (.slice U.ps ls' U.cs) ∧ V.cell? ⟨bq, oq + ju * 9 + 2, none⟩ = some (.slice U.pk lk' U.ck) ∧ V.cell? ⟨bq, oq + ju * 9 + 3, none⟩ = some (.int .i64 gr) ∧ V.cell? ⟨bq, oq + ju * 9 + 4, none⟩ = some (.int .i64 U.nd.mn) ∧ V.cell? ⟨bq, oq + ju * 9 + 5, none⟩ = some (.int .i64 U.nd.mx) ∧ V.cell? ⟨bq, oq + ju * 9 + 6, none⟩ = some (.int .u8 U.nd.mode) ∧ V.cell? ⟨bq, oq + ju * 9 + 7, none⟩ = some (.int .u8 U.nd.spot) ∧ V.cell? ⟨bq, oq + ju * 9 + 8, none⟩ = some (.bool U.nd.neg) ∧ V.cell? ⟨bn, on + kk * 9, none⟩ = some (.int .u8 kd) ∧ V.cell? ⟨bn, on + kk * 9 + 1, none⟩ = some (.slice X.ps ls' X.cs) ∧ V.cell? ⟨bn, on + kk * 9 + 2, none⟩ = some (.slice X.pk lk' X.ck) ∧ V.cell? ⟨bn, on + kk * 9 + 3, none⟩ = some (.int .i64 gr) ∧ V.cell? ⟨bn, on + kk * 9 + 4, none⟩ = some (.int .i64 X.nd.mn) ∧ V.cell? ⟨bn, on + kk * 9 + 5, none⟩ = some (.int .i64 X.nd.mx) ∧ V.cell? ⟨bn, on + kk * 9 + 6, none⟩ = some (.int .u8 X.nd.mode) ∧ V.cell? ⟨bn, on + kk * 9 + 7, none⟩ = some (.int .u8 X.nd.spot) ∧ V.cell? ⟨bn, on + kk * 9 + 8, none⟩ = some (.bool X.nd.neg)) y3 := ⟨cell_below (HSZ.out.1) HBy3.out, cell_below (HSZ.out.2.1) HBy3.out, cell_below (HSZ.out.2.2.1) HBy3.out, cell_below (HSZ.out.2.2.2.1) HBy3.out, cell_below (HSZ.out.2.2.2.2.1) HBy3.out, cell_below (HSZ.out.2.2.2.2.2.1) HBy3.out, cell_below (HSZ.out.2.2.2.2.2.2.1) HBy3.out, cell_below (HSZ.out.2.2.2.2.2.2.2.1) HBy3.out, cell_below (HSZ.out.2.2.2.2.2.2.2.2.1) HBy3.out, cell_below (HSZ.out.2.2.2.2.2.2.2.2.2.1) HBy3.out, cell_below (HSZ.out.2.2.2.2.2.2.2.2.2.2.1) HBy3.out, cell_below (HSZ.out.2.2.2.2.2.2.2.2.2.2.2.1) HBy3.out, cell_below (HSZ.out.2.2.2.2.2.2.2.2.2.2.2.2.1) HBy3.out, cell_below (HSZ.out.2.2.2.2.2.2.2.2.2.2.2.2.2.1) HBy3.out, cell_below (HSZ.out.2.2.2.2.2.2.2.2.2.2.2.2.2.2.1) HBy3.out, cell_below (HSZ.out.2.2.2.2.2.2.2.2.2.2.2.2.2.2.2.1) HBy3.out, cell_below (HSZ.out.2.2.2.2.2.2.2.2.2.2.2.2.2.2.2.2.1) HBy3.out, cell_below (HSZ.out.2.2.2.2.2.2.2.2.2.2.2.2.2.2.2.2.2.1) HBy3.out, cell_below (HSZ.out.2.2.2.2.2.2.2.2.2.2.2.2.2.2.2.2.2.2.1) HBy3.out, cell_below (HSZ.out.2.2.2.2.2.2.2.2.2.2.2.2.2.2.2.2.2.2.2) HBy3.out⟩
            refine hK.out _ _ ⟨fun h => absurd h (by decide), fun _ => hSy3⟩ ?_
            clear hK K hSy3
            try simp only [Act.put, List.setIfInBounds_toArray, List.set_cons_zero, List.set_cons_succ]
            have HXbf : Hid (Bx y3 bf 38 #[.int .u8 0, .slice none 0 0, .slice none 0 0, .int .i64 0, .int .i64 0, .int .i64 0, .int .u8 0, .int .u8 0, .bool false]) := by show Bx _ _ _ _; rw [← HPy3.out]; exact bx_put9_other HXbf.out (Ne.symm HNE.out) _ _ _ _ _ _ _ _ _
            have HXbe : Hid (Bx y3 be 38 #[.int .u8 kd, .slice U.ps ls' U.cs, .slice U.pk lk' U.ck, .int .i64 gr, .int .i64 U.nd.mn, .int .i64 U.nd.mx, .int .u8 U.nd.mode, .int .u8 U.nd.spot, .bool U.nd.neg]) := by show Bx _ _ _ _; rw [← HPy3.out]; exact bx_put9 HXbe.out _ _ _ _ _ _ _ _ _
            obtain ⟨x0, x1, x2, x3, x4, x5, x6, x7, x8⟩ := nine HXbf.out
            have fz0 := HXbf.out.free 0
            have fz1 := HXbf.out.free 1
            have fz2 := HXbf.out.free 2
            have fz3 := HXbf.out.free 3
            have fz4 := HXbf.out.free 4
            have fz5 := HXbf.out.free 5
            have fz6 := HXbf.out.free 6
            have fz7 := HXbf.out.free 7
            have fz8 := HXbf.out.free 8
            refine anyL_one (i := 16) (o := { dst := none, op := Op.store 38 (Operand.tmp 16) (Operand.tmp 144), type := 0, pos := "outright.go:42", after := #[{ on := 14, ground := Ground.data }, { on := 12, ground := Ground.data }, { on := 15, ground := Ground.chain }, { on := 0, ground := Ground.phase }, { on := 1, ground := Ground.phase }, { on := 2, ground := Ground.phase }, { on := 3, ground := Ground.phase }, { on := 4, ground := Ground.phase }, { on := 5, ground := Ground.phase }, { on := 6, ground := Ground.phase }, { on := 7, ground := Ground.phase }, { on := 8, ground := Ground.phase }, { on := 9, ground := Ground.phase }, { on := 10, ground := Ground.phase }, { on := 11, ground := Ground.phase }, { on := 12, ground := Ground.phase }, { on := 13, ground := Ground.phase }, { on := 14, ground := Ground.phase }, { on := 15, ground := Ground.phase }], guard := none }) (by kernel_rfl) rfl (fun K hK => ?_)
            go_simp
            obtain ⟨y4, hwy4⟩ : ∃ V, V = put9 y3 bf (.int .u8 kd) (.slice X.ps ls' X.cs) (.slice X.pk lk' X.ck) (.int .i64 gr) (.int .i64 X.nd.mn) (.int .i64 X.nd.mx) (.int .u8 X.nd.mode) (.int .u8 X.nd.spot) (.bool X.nd.neg) := ⟨_, rfl⟩
            have HPy4 : Hid (put9 y3 bf (.int .u8 kd) (.slice X.ps ls' X.cs) (.slice X.pk lk' X.ck) (.int .i64 gr) (.int .i64 X.nd.mn) (.int .i64 X.nd.mx) (.int .u8 X.nd.mode) (.int .u8 X.nd.spot) (.bool X.nd.neg) = y4) := hwy4.symm
            unfold put9 at hwy4
            rw [← hwy4]
            have HBy4 : Hid (Below WZ.heap.size WZ y4) := by show Below _ _ _; rw [← HPy4.out]; exact below_put9 HBy3.out HGbf.out _ _ _ _ _ _ _ _ _
            clear hwy4 x0 x1 x2 x3 x4 x5 x6 x7 x8 fz0 fz1 fz2 fz3 fz4 fz5 fz6 fz7 fz8
            refine hK.out _ _ ⟨fun h => absurd h (by decide), fun h => absurd h (by decide)⟩ ?_
            clear hK K
            try simp only [Act.put, List.setIfInBounds_toArray, List.set_cons_zero, List.set_cons_succ]
            have hxe : Bx y4 be 38 #[.int .u8 kd, .slice U.ps ls' U.cs, .slice U.pk lk' U.ck, .int .i64 gr, .int .i64 U.nd.mn, .int .i64 U.nd.mx, .int .u8 U.nd.mode, .int .u8 U.nd.spot, .bool U.nd.neg] := by rw [← HPy4.out]; exact bx_put9_other HXbe.out HNE.out _ _ _ _ _ _ _ _ _
            have hxf : Bx y4 bf 38 #[.int .u8 kd, .slice X.ps ls' X.cs, .slice X.pk lk' X.ck, .int .i64 gr, .int .i64 X.nd.mn, .int .i64 X.nd.mx, .int .u8 X.nd.mode, .int .u8 X.nd.spot, .bool X.nd.neg] := by rw [← HPy4.out]; exact bx_put9 HXbf.out _ _ _ _ _ _ _ _ _
            obtain ⟨m0, m1, m2, m3, m4, m5, m6, m7, m8⟩ := nine hxe
            obtain ⟨n0, n1, n2, n3, n4, n5, n6, n7, n8⟩ := nine hxf
            clear hxe hxf
            refine anyL_done (by kernel_rfl) (show onlyN _ .normal _ _ from ?_) _
            dsimp only [onlyN]
            have HSY := Lib.hid (HSR.out y4 (bl_trans HYZ.out HBy4.out))
            go_wp2_with fail
            refine (HSY.out).mono ?_
            rintro e y5 ⟨rfl, hb5⟩
            have HB5 := Lib.hid (bl_trans HBV.out (bl_trans HVY.out (bl_trans HYZ.out (bl_trans HBy4.out hb5))))
            clear hb5 m0 m1 m2 m3 m4 m5 m6 m7 m8 n0 n1 n2 n3 n4 n5 n6 n7 n8
            go_wp2
            go_ret
            exact ⟨rfl, HB1.out.trans (((HB14.out.trans (HB5.out.mono HB14.out.size))).mono HB1.out.size)⟩
          · skip
            go_simp
            obtain ⟨y1, hwy1⟩ : ∃ V, V = WZ.alloc (.cells #[.int .u8 0, .slice none 0 0, .slice none 0 0, .int .i64 0, .int .i64 0, .int .i64 0, .int .u8 0, .int .u8 0, .bool false] 38) := ⟨_, rfl⟩
            rw [← hwy1]
            have hby1 : Below WZ.heap.size WZ y1 := by rw [hwy1]; exact bl_alloc _ _
            have HBy1 : Hid (Below WZ.heap.size WZ y1) := bl_trans HBWZ.out hby1
            have hxy1 : Bx y1 WZ.heap.size 38 #[.int .u8 0, .slice none 0 0, .slice none 0 0, .int .i64 0, .int .i64 0, .int .i64 0, .int .u8 0, .int .u8 0, .bool false] := by rw [hwy1]; exact Bx.new _ _ _
            have HSy1 : Hid (y1.heap.size = WZ.heap.size + 1) := by show _ = _; rw [hwy1, World.size_alloc]
            obtain ⟨bf, hb_bf⟩ : ∃ b, b = WZ.heap.size := ⟨_, rfl⟩
            rw [← hb_bf] at hxy1 ⊢
            have HXbf := Lib.hid hxy1
            have HEbf := Lib.hid hb_bf
            have HCy1 := Lib.hid hby1
            clear hwy1 hby1 hxy1 hb_bf
            have hSy1 : (fun (V : World) => V.cell? ⟨bu, 0, none⟩ = some (.slice (some ⟨bq, oq, none⟩) m cq) ∧ V.cell? ⟨b0, 0, none⟩ = some (.slice (some ⟨bn, on, none⟩) z c) ∧ V.cell? ⟨bq, oq + ju * 9, none⟩ = some (.int .u8 kd) ∧ V.cell? ⟨bq, oq + ju * 9 + 1, none⟩ = some (.slice U.ps ls' U.cs) ∧ V.cell? ⟨bq, oq + ju * 9 + 2, none⟩ = some (.slice U.pk lk' U.ck) ∧ V.cell? ⟨bq, oq + ju * 9 + 3, none⟩ = some (.int .i64 gr) ∧ V.cell? ⟨bq, oq + ju * 9 + 4, none⟩ = some (.int .i64 U.nd.mn) ∧ V.cell? ⟨bq, oq + ju * 9 + 5, none⟩ = some (.int .i64 U.nd.mx) ∧ V.cell? ⟨bq, oq + ju * 9 + 6, none⟩ = some (.int .u8 U.nd.mode) ∧ V.cell? ⟨bq, oq + ju * 9 + 7, none⟩ = some (.int .u8 U.nd.spot) ∧ V.cell? ⟨bq, oq + ju * 9 + 8, none⟩ = some (.bool U.nd.neg) ∧ V.cell? ⟨bn, on + kk * 9, none⟩ = some (.int .u8 kd) ∧ V.cell? ⟨bn, on + kk * 9 + 1, none⟩ = some (.slice X.ps ls' X.cs) ∧ V.cell? ⟨bn, on + kk * 9 + 2, none⟩ = some (.slice X.pk lk' X.ck) ∧ V.cell? ⟨bn, on + kk * 9 + 3, none⟩ = some (.int .i64 gr) ∧ V.cell? ⟨bn, on + kk * 9 + 4, none⟩ = some (.int .i64 X.nd.mn) ∧ V.cell? ⟨bn, on + kk * 9 + 5, none⟩ = some (.int .i64 X.nd.mx) ∧ V.cell? ⟨bn, on + kk * 9 + 6, none⟩ = some (.int .u8 X.nd.mode) ∧ V.cell? ⟨bn, on + kk * 9 + 7, none⟩ = some (.int .u8 X.nd.spot) ∧ V.cell? ⟨bn, on + kk * 9 + 8, none⟩ = some (.bool X.nd.neg)) y1 := ⟨cell_below (HSZ.out.1) HBy1.out, cell_below (HSZ.out.2.1) HBy1.out, cell_below (HSZ.out.2.2.1) HBy1.out, cell_below (HSZ.out.2.2.2.1) HBy1.out, cell_below (HSZ.out.2.2.2.2.1) HBy1.out, cell_below (HSZ.out.2.2.2.2.2.1) HBy1.out, cell_below (HSZ.out.2.2.2.2.2.2.1) HBy1.out, cell_below (HSZ.out.2.2.2.2.2.2.2.1) HBy1.out, cell_below (HSZ.out.2.2.2.2.2.2.2.2.1) HBy1.out, cell_below (HSZ.out.2.2.2.2.2.2.2.2.2.1) HBy1.out, cell_below (HSZ.out.2.2.2.2.2.2.2.2.2.2.1) HBy1.out, cell_below (HSZ.out.2.2.2.2.2.2.2.2.2.2.2.1) HBy1.out, cell_below (HSZ.out.2.2.2.2.2.2.2.2.2.2.2.2.1) HBy1.out, cell_below (HSZ.out.2.2.2.2.2.2.2.2.2.2.2.2.2.1) HBy1.out, cell_below (HSZ.out.2.2.2.2.2.2.2.2.2.2.2.2.2.2.1) HBy1.out, cell_below (HSZ.out.2.2.2.2.2.2.2.2.2.2.2.2.2.2.2.1) HBy1.out, cell_below (HSZ.out.2.2.2.2.2.2.2.2.2.2.2.2.2.2.2.2.1) HBy1.out, cell_below (HSZ.out.2.2.2.2.2.2.2.2.2.2.2.2.2.2.2.2.2.1) HBy1.out, cell_below (HSZ.out.2.2.2.2.2.2.2.2.2.2.2.2.2.2.2.2.2.2.1) HBy1.out, cell_below (HSZ.out.2.2.2.2.2.2.2.2.2.2.2.2.2.2.2.2.2.2.2) HBy1.out⟩
            refine hK.out _ _ ⟨fun _ => hSy1, fun _ => hSy1⟩ ?_
            clear hK K hSy1
            try simp only [Act.put, List.setIfInBounds_toArray, List.set_cons_zero, List.set_cons_succ]
            refine anyL_one (i := 13) (o := { dst := some 15, op := Op.alloc 38, type := 0, pos := "outright.go:42", after := #[], guard := none }) (by kernel_rfl) rfl (fun K hK => ?_)
            go_simp
            obtain ⟨y2, hwy2⟩ : ∃ V, V = y1.alloc (.cells #[.int .u8 0, .slice none 0 0, .slice none 0 0, .int .i64 0, .int .i64 0, .int .i64 0, .int .u8 0, .int .u8 0, .bool false] 38) := ⟨_, rfl⟩
            rw [← hwy2]
            have hby2 : Below y1.heap.size y1 y2 := by rw [hwy2]; exact bl_alloc _ _
            have HBy2 : Hid (Below WZ.heap.size WZ y2) := bl_trans HBy1.out hby2
            have hxy2 : Bx y2 y1.heap.size 38 #[.int .u8 0, .slice none 0 0, .slice none 0 0, .int .i64 0, .int .i64 0, .int .i64 0, .int .u8 0, .int .u8 0, .bool false] := by rw [hwy2]; exact Bx.new _ _ _
            have HSy2 : Hid (y2.heap.size = y1.heap.size + 1) := by show _ = _; rw [hwy2, World.size_alloc]
            obtain ⟨be, hb_be⟩ : ∃ b, b = y1.heap.size := ⟨_, rfl⟩
            rw [← hb_be] at hxy2 ⊢
            have HXbe := Lib.hid hxy2
            have HEbe := Lib.hid hb_be
            have HCy2 := Lib.hid hby2
            clear hwy2 hby2 hxy2 hb_be
            have hSy2 : (fun (V : World) => V.cell? ⟨bu, 0, none⟩ = some (.slice (some ⟨bq, oq, none⟩) m cq) ∧ V.cell? ⟨b0, 0, none⟩ = some (.slice (some ⟨bn, on, none⟩) z c) ∧ V.cell? ⟨bq, oq + ju * 9, none⟩ = some (.int .u8 kd) ∧ V.cell? ⟨bq, oq + ju * 9 + 1, none⟩ = some (.slice U.ps ls' U.cs) ∧ V.cell? ⟨bq, oq + ju * 9 + 2, none⟩ = some (.slice U.pk lk' U.ck) ∧ V.cell? ⟨bq, oq + ju * 9 + 3, none⟩ = some (.int .i64 gr) ∧ V.cell? ⟨bq, oq + ju * 9 + 4, none⟩ = some (.int .i64 U.nd.mn) ∧ V.cell? ⟨bq, oq + ju * 9 + 5, none⟩ = some (.int .i64 U.nd.mx) ∧ V.cell? ⟨bq, oq + ju * 9 + 6, none⟩ = some (.int .u8 U.nd.mode) ∧ V.cell? ⟨bq, oq + ju * 9 + 7, none⟩ = some (.int .u8 U.nd.spot) ∧ V.cell? ⟨bq, oq + ju * 9 + 8, none⟩ = some (.bool U.nd.neg) ∧ V.cell? ⟨bn, on + kk * 9, none⟩ = some (.int .u8 kd) ∧ V.cell? ⟨bn, on + kk * 9 + 1, none⟩ = some (.slice X.ps ls' X.cs) ∧ V.cell? ⟨bn, on + kk * 9 + 2, none⟩ = some (.slice X.pk lk' X.ck) ∧ V.cell? ⟨bn, on + kk * 9 + 3, none⟩ = some (.int .i64 gr) ∧ V.cell? ⟨bn, on + kk * 9 + 4, none⟩ = some (.int .i64 X.nd.mn) ∧ V.cell? ⟨bn, on + kk * 9 + 5, none⟩ = some (.int .i64 X.nd.mx) ∧ V.cell? ⟨bn, on + kk * 9 + 6, none⟩ = some (.int .u8 X.nd.mode) ∧ V.cell? ⟨bn, on + kk * 9 + 7, none⟩ = some (.int .u8 X.nd.spot) ∧ V.cell? ⟨bn, on + kk * 9 + 8, none⟩ = some (.bool X.nd.neg)) y2 := ⟨cell_below (HSZ.out.1) HBy2.out, cell_below (HSZ.out.2.1) HBy2.out, cell_below (HSZ.out.2.2.1) HBy2.out, cell_below (HSZ.out.2.2.2.1) HBy2.out, cell_below (HSZ.out.2.2.2.2.1) HBy2.out, cell_below (HSZ.out.2.2.2.2.2.1) HBy2.out, cell_below (HSZ.out.2.2.2.2.2.2.1) HBy2.out, cell_below (HSZ.out.2.2.2.2.2.2.2.1) HBy2.out, cell_below (HSZ.out.2.2.2.2.2.2.2.2.1) HBy2.out, cell_below (HSZ.out.2.2.2.2.2.2.2.2.2.1) HBy2.out, cell_below (HSZ.out.2.2.2.2.2.2.2.2.2.2.1) HBy2.out, cell_below (HSZ.out.2.2.2.2.2.2.2.2.2.2.2.1) HBy2.out, cell_below (HSZ.out.2.2.2.2.2.2.2.2.2.2.2.2.1) HBy2.out, cell_below (HSZ.out.2.2.2.2.2.2.2.2.2.2.2.2.2.1) HBy2.out, cell_below (HSZ.out.2.2.2.2.2.2.2.2.2.2.2.2.2.2.1) HBy2.out, cell_below (HSZ.out.2.2.2.2.2.2.2.2.2.2.2.2.2.2.2.1) HBy2.out, cell_below (HSZ.out.2.2.2.2.2.2.2.2.2.2.2.2.2.2.2.2.1) HBy2.out, cell_below (HSZ.out.2.2.2.2.2.2.2.2.2.2.2.2.2.2.2.2.2.1) HBy2.out, cell_below (HSZ.out.2.2.2.2.2.2.2.2.2.2.2.2.2.2.2.2.2.2.1) HBy2.out, cell_below (HSZ.out.2.2.2.2.2.2.2.2.2.2.2.2.2.2.2.2.2.2.2) HBy2.out⟩
            refine hK.out _ _ ⟨fun _ => hSy2, fun _ => hSy2⟩ ?_
            clear hK K hSy2
            try simp only [Act.put, List.setIfInBounds_toArray, List.set_cons_zero, List.set_cons_succ]
            have HXbf : Hid (Bx y2 bf 38 #[.int .u8 0, .slice none 0 0, .slice none 0 0, .int .i64 0, .int .i64 0, .int .i64 0, .int .u8 0, .int .u8 0, .bool false]) := HXbf.out.below HCy2.out
            have HGbf : Hid (WZ.heap.size ≤ bf) := by show _ ≤ _; rw [HEbf.out]; exact Nat.le_refl _
            have HGbe : Hid (WZ.heap.size ≤ be) := by show _ ≤ _; rw [HEbe.out, HSy1.out]; omega
            have HNE : Hid (bf ≠ be) := by show _ ≠ _; rw [HEbf.out, HEbe.out, HSy1.out]; omega
            obtain ⟨x0, x1, x2, x3, x4, x5, x6, x7, x8⟩ := nine HXbe.out
            have fz0 := HXbe.out.free 0
            have fz1 := HXbe.out.free 1
            have fz2 := HXbe.out.free 2
            have fz3 := HXbe.out.free 3
            have fz4 := HXbe.out.free 4
            have fz5 := HXbe.out.free 5
            have fz6 := HXbe.out.free 6
            have fz7 := HXbe.out.free 7
            have fz8 := HXbe.out.free 8
            refine anyL_one (i := 15) (o := { dst := none, op := Op.store 38 (Operand.tmp 15) (Operand.tmp 139), type := 0, pos := "outright.go:42", after := #[{ on := 13, ground := Ground.data }, { on := 7, ground := Ground.data }, { on := 0, ground := Ground.phase }, { on := 1, ground := Ground.phase }, { on := 2, ground := Ground.phase }, { on := 3, ground := Ground.phase }, { on := 4, ground := Ground.phase }, { on := 5, ground := Ground.phase }, { on := 6, ground := Ground.phase }, { on := 7, ground := Ground.phase }, { on := 8, ground := Ground.textOnly Departure.lateStores }, { on := 9, ground := Ground.textOnly Departure.lateStores }, { on := 10, ground := Ground.textOnly Departure.lateStores }, { on := 11, ground := Ground.textOnly Departure.lateStores }, { on := 12, ground := Ground.textOnly Departure.lateStores }, { on := 13, ground := Ground.phase }, { on := 14, ground := Ground.phase }], guard := none }) (by kernel_rfl) rfl (fun K hK => ?_)
            go_simp
            obtain ⟨y3, hwy3⟩ : ∃ V, V = put9 y2 be (.int .u8 kd) (.slice U.ps ls' U.cs) (.slice U.pk lk' U.ck) (.int .i64 gr) (.int .i64 U.nd.mn) (.int .i64 U.nd.mx) (.int .u8 U.nd.mode) (.int .u8 U.nd.spot) (.bool U.nd.neg) := ⟨_, rfl⟩
            have HPy3 : Hid (put9 y2 be (.int .u8 kd) (.slice U.ps ls' U.cs) (.slice U.pk lk' U.ck) (.int .i64 gr) (.int .i64 U.nd.mn) (.int .i64 U.nd.mx) (.int .u8 U.nd.mode) (.int .u8 U.nd.spot) (.bool U.nd.neg) = y3) := hwy3.symm
            unfold put9 at hwy3
            rw [← hwy3]
            have HBy3 : Hid (Below WZ.heap.size WZ y3) := by show Below _ _ _; rw [← HPy3.out]; exact below_put9 HBy2.out HGbe.out _ _ _ _ _ _ _ _ _
            clear hwy3 x0 x1 x2 x3 x4 x5 x6 x7 x8 fz0 fz1 fz2 fz3 fz4 fz5 fz6 fz7 fz8
            have hSy3 : (fun (V : World) => V.cell? ⟨bu, 0, none⟩ = some (.slice (some ⟨bq, oq, none⟩) m cq) ∧ V.cell? ⟨b0, 0, none⟩ = some (.slice (some ⟨bn, on, none⟩) z c) ∧ V.cell? ⟨bq, oq + ju * 9, none⟩ = some (.int .u8 kd) ∧ V.cell? ⟨bq, oq + ju * 9 + 1, none⟩ = some (.slice U.ps ls' U.cs) ∧ V.cell? ⟨bq, oq + ju * 9 + 2, none⟩ = some (.slice U.pk lk' U.ck) ∧ V.cell? ⟨bq, oq + ju * 9 + 3, none⟩ = some (.int .i64 gr) ∧ V.cell? ⟨bq, oq + ju * 9 + 4, none⟩ = some (.int .i64 U.nd.mn) ∧ V.cell? ⟨bq, oq + ju * 9 + 5, none⟩ = some (.int .i64 U.nd.mx) ∧ V.cell? ⟨bq, oq + ju * 9 + 6, none⟩ = some (.int .u8 U.nd.mode) ∧ V.cell? ⟨bq, oq + ju * 9 + 7, none⟩ = some (.int .u8 U.nd.spot) ∧ V.cell? ⟨bq, oq + ju * 9 + 8, none⟩ = some (.bool U.nd.neg) ∧ V.cell? ⟨bn, on + kk * 9, none⟩ = some (.int .u8 kd) ∧ V.cell? ⟨bn, on + kk * 9 + 1, none⟩ = some (.slice X.ps ls' X.cs) ∧ V.cell? ⟨bn, on + kk * 9 + 2, none⟩ = some (.slice X.pk lk' X.ck) ∧ V.cell? ⟨bn, on + kk * 9 + 3, none⟩ = some (.int .i64 gr) ∧ V.cell? ⟨bn, on + kk * 9 + 4, none⟩ = some (.int .i64 X.nd.mn) ∧ V.cell? ⟨bn, on + kk * 9 + 5, none⟩ = some (.int .i64 X.nd.mx) ∧ V.cell? ⟨bn, on + kk * 9 + 6, none⟩ = some (.int .u8 X.nd.mode) ∧ V.cell? ⟨bn, on + kk * 9 + 7, none⟩ = some (.int .u8 X.nd.spot) ∧ V.cell? ⟨bn, on + kk * 9 + 8, none⟩ = some (.bool X.nd.neg)) y3 := ⟨cell_below (HSZ.out.1) HBy3.out, cell_below (HSZ.out.2.1) HBy3.out, cell_below (HSZ.out.2.2.1) HBy3.out, cell_below (HSZ.out.2.2.2.1) HBy3.out, cell_below (HSZ.out.2.2.2.2.1) HBy3.out, cell_below (HSZ.out.2.2.2.2.2.1) HBy3.out, cell_below (HSZ.out.2.2.2.2.2.2.1) HBy3.out, cell_below (HSZ.out.2.2.2.2.2.2.2.1) HBy3.out, cell_below (HSZ.out.2.2.2.2.2.2.2.2.1) HBy3.out, cell_below (HSZ.out.2.2.2.2.2.2.2.2.2.1) HBy3.out, cell_below (HSZ.out.2.2.2.2.2.2.2.2.2.2.1) HBy3.out, cell_below (HSZ.out.2.2.2.2.2.2.2.2.2.2.2.1) HBy3.out, cell_below (HSZ.out.2.2.2.2.2.2.2.2.2.2.2.2.1) HBy3.out, cell_below (HSZ.out.2.2.2.2.2.2.2.2.2.2.2.2.2.1) HBy3.out, cell_below (HSZ.out.2.2.2.2.2.2.2.2.2.2.2.2.2.2.1) HBy3.out, cell_below (HSZ.out.2.2.2.2.2.2.2.2.2.2.2.2.2.2.2.1) HBy3.out, cell_below (HSZ.out.2.2.2.2.2.2.2.2.2.2.2.2.2.2.2.2.1) HBy3.out, cell_below (HSZ.out.2.2.2.2.2.2.2.2.2.2.2.2.2.2.2.2.2.1) HBy3.out, cell_below (HSZ.out.2.2.2.2.2.2.2.2.2.2.2.2.2.2.2.2.2.2.1) HBy3.out, cell_below (HSZ.out.2.2.2.2.2.2.2.2.2.2.2.2.2.2.2.2.2.2.2) HBy3.out⟩
            refine hK.out _ _ ⟨fun h => absurd h (by decide), fun _ => hSy3⟩ ?_
            clear hK K hSy3
            try simp only [Act.put, List.setIfInBounds_toArray, List.set_cons_zero, List.set_cons_succ]
            have HXbf : Hid (Bx y3 bf 38 #[.int .u8 0, .slice none 0 0, .slice none 0 0, .int .i64 0, .int .i64 0, .int .i64 0, .int .u8 0, .int .u8 0, .bool false]) := by show Bx _ _ _ _; rw [← HPy3.out]; exact bx_put9_other HXbf.out HNE.out _ _ _ _ _ _ _ _ _
            have HXbe : Hid (Bx y3 be 38 #[.int .u8 kd, .slice U.ps ls' U.cs, .slice U.pk lk' U.ck, .int .i64 gr, .int .i64 U.nd.mn, .int .i64 U.nd.mx, .int .u8 U.nd.mode, .int .u8 U.nd.spot, .bool U.nd.neg]) := by show Bx _ _ _ _; rw [← HPy3.out]; exact bx_put9 HXbe.out _ _ _ _ _ _ _ _ _
            obtain ⟨x0, x1, x2, x3, x4, x5, x6, x7, x8⟩ := nine HXbf.out
            have fz0 := HXbf.out.free 0
            have fz1 := HXbf.out.free 1
            have fz2 := HXbf.out.free 2
            have fz3 := HXbf.out.free 3
            have fz4 := HXbf.out.free 4
            have fz5 := HXbf.out.free 5
            have fz6 := HXbf.out.free 6
            have fz7 := HXbf.out.free 7
            have fz8 := HXbf.out.free 8
            refine anyL_one (i := 16) (o := { dst := none, op := Op.store 38 (Operand.tmp 16) (Operand.tmp 144), type := 0, pos := "outright.go:42", after := #[{ on := 14, ground := Ground.data }, { on := 12, ground := Ground.data }, { on := 15, ground := Ground.chain }, { on := 0, ground := Ground.phase }, { on := 1, ground := Ground.phase }, { on := 2, ground := Ground.phase }, { on := 3, ground := Ground.phase }, { on := 4, ground := Ground.phase }, { on := 5, ground := Ground.phase }, { on := 6, ground := Ground.phase }, { on := 7, ground := Ground.phase }, { on := 8, ground := Ground.phase }, { on := 9, ground := Ground.phase }, { on := 10, ground := Ground.phase }, { on := 11, ground := Ground.phase }, { on := 12, ground := Ground.phase }, { on := 13, ground := Ground.phase }, { on := 14, ground := Ground.phase }, { on := 15, ground := Ground.phase }], guard := none }) (by kernel_rfl) rfl (fun K hK => ?_)
            go_simp
            obtain ⟨y4, hwy4⟩ : ∃ V, V = put9 y3 bf (.int .u8 kd) (.slice X.ps ls' X.cs) (.slice X.pk lk' X.ck) (.int .i64 gr) (.int .i64 X.nd.mn) (.int .i64 X.nd.mx) (.int .u8 X.nd.mode) (.int .u8 X.nd.spot) (.bool X.nd.neg) := ⟨_, rfl⟩
            have HPy4 : Hid (put9 y3 bf (.int .u8 kd) (.slice X.ps ls' X.cs) (.slice X.pk lk' X.ck) (.int .i64 gr) (.int .i64 X.nd.mn) (.int .i64 X.nd.mx) (.int .u8 X.nd.mode) (.int .u8 X.nd.spot) (.bool X.nd.neg) = y4) := hwy4.symm
            unfold put9 at hwy4
            rw [← hwy4]
            have HBy4 : Hid (Below WZ.heap.size WZ y4) := by show Below _ _ _; rw [← HPy4.out]; exact below_put9 HBy3.out HGbf.out _ _ _ _ _ _ _ _ _
            clear hwy4 x0 x1 x2 x3 x4 x5 x6 x7 x8 fz0 fz1 fz2 fz3 fz4 fz5 fz6 fz7 fz8
            refine hK.out _ _ ⟨fun h => absurd h (by decide), fun h => absurd h (by decide)⟩ ?_
            clear hK K
            try simp only [Act.put, List.setIfInBounds_toArray, List.set_cons_zero, List.set_cons_succ]
            have hxe : Bx y4 be 38 #[.int .u8 kd, .slice U.ps ls' U.cs, .slice U.pk lk' U.ck, .int .i64 gr, .int .i64 U.nd.mn, .int .i64 U.nd.mx, .int .u8 U.nd.mode, .int .u8 U.nd.spot, .bool U.nd.neg] := by rw [← HPy4.out]; exact bx_put9_other HXbe.out (Ne.symm HNE.out) _ _ _ _ _ _ _ _ _
            have hxf : Bx y4 bf 38 #[.int .u8 kd, .slice X.ps ls' X.cs, .slice X.pk lk' X.ck, .int .i64 gr, .int .i64 X.nd.mn, .int .i64 X.nd.mx, .int .u8 X.nd.mode, .int .u8 X.nd.spot, .bool X.nd.neg] := by rw [← HPy4.out]; exact bx_put9 HXbf.out _ _ _ _ _ _ _ _ _
            obtain ⟨m0, m1, m2, m3, m4, m5, m6, m7, m8⟩ := nine hxe
            obtain ⟨n0, n1, n2, n3, n4, n5, n6, n7, n8⟩ := nine hxf
            clear hxe hxf
            refine anyL_done (by kernel_rfl) (show onlyN _ .normal _ _ from ?_) _
            dsimp only [onlyN]
            have HSY := Lib.hid (HSR.out y4 (bl_trans HYZ.out HBy4.out))
            go_wp2_with fail
            refine (HSY.out).mono ?_
            rintro e y5 ⟨rfl, hb5⟩
            have HB5 := Lib.hid (bl_trans HBV.out (bl_trans HVY.out (bl_trans HYZ.out (bl_trans HBy4.out hb5))))
            clear hb5 m0 m1 m2 m3 m4 m5 m6 m7 m8 n0 n1 n2 n3 n4 n5 n6 n7 n8
            go_wp2
            go_ret
            exact ⟨rfl, HB1.out.trans (((HB14.out.trans (HB5.out.mono HB14.out.size))).mono HB1.out.size)⟩
end Go.Proofs.YtpiknmnhcpjfaaaGreat
