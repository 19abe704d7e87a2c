/- The walks of SameTree, same; RangesOf, TextsOf, TreeOf, TreesOf, great. -/
import Derived.Test.YtpiknmnhcpjfaaaGreatMj
namespace Go.Proofs.YtpiknmnhcpjfaaaGreat
open Go.RowKit Tnr Tnt

def sameT (xs ys : List NV) (a b : List ByteArray) : Bool := decide (nds xs = nds ys) && sameX a b
set_option maxHeartbeats 3200000 in
set_option maxRecDepth 100000 in
theorem sameTree_any (p q pn qn : Option Addr) (n m c d nn mn cn dn : Nat) (xs ys : List NV) (a b : List ByteArray) (w : World) (hn : n = xs.length) (hm : m = ys.length) (hl : n ≤ 1000000) (hp : SlN w p xs) (hq : SlN w q ys) (fx : Few xs) (fy : Few ys) (ha : nn = a.length) (hb : mn = b.length) (hla : nn ≤ 1000000) (hlb : mn ≤ 1000000) (hpa : SlX w pn a) (hqb : SlX w qn b) :
    Calls Tryz.prog 28 #[.agg #[.slice p n c, .slice pn nn cn], .agg #[.slice q m d, .slice qn mn dn]] w fun e w' => e = .returned (.bool (sameT xs ys a b)) ∧ Below w.heap.size w w' := by
  obtain ⟨W2, hW2⟩ : ∃ W, W = (w.alloc (.cells #[.slice p n c, .slice pn nn cn] 25)).alloc (.cells #[.slice q m d, .slice qn mn dn] 25) := ⟨_, rfl⟩
  have hb2 : Below w.heap.size w W2 := by rw [hW2]; exact bl_trans (bl_alloc _ _) (bl_alloc _ _)
  have hX : Bx W2 w.heap.size 25 #[.slice p n c, .slice pn nn cn] := by rw [hW2]; exact (Bx.new w _ _).below (bl_alloc _ _)
  have hY : Bx W2 (w.heap.size + 1) 25 #[.slice q m d, .slice qn mn dn] := by
    have h := Bx.new (w.alloc (.cells #[.slice p n c, .slice pn nn cn] 25)) 25 #[.slice q m d, .slice qn mn dn]
    rw [World.size_alloc] at h; rw [hW2]; exact h
  have HSN := Lib.hid (sameNodes_any p q n m c d xs ys W2 hn hm hl (hp.below hb2) (hq.below hb2) fx fy)
  have HSX : Hid (∀ V, Below W2.heap.size W2 V → Calls Tryz.prog 39 #[.slice pn nn cn, .slice qn mn dn] V fun e w' => e = .returned (.bool (sameX a b)) ∧ ∃ k, V.drewN k = w') := fun V hV => by
    rw [ha, hb]; exact sameX_any pn qn cn dn a b V ((hpa.below hb2).below hV) ((hqb.below hb2).below hV) (by omega) (by omega)
  have HV : Hid (sameT xs ys a b = (decide (nds xs = nds ys) && sameX a b)) := rfl
  have HXY := Lib.hid (And.intro hX hY)
  have HB2 := Lib.hid hb2
  have HW2 := Lib.hid hW2
  obtain ⟨sb, hsb⟩ : ∃ s : Bool, s = decide (nds xs = nds ys) := ⟨_, rfl⟩
  rw [← hsb] at HSN HV
  clear hsb hb2 hX hY hW2 hn hm hl hp hq fx fy ha hb hla hlb hpa hqb
  cases sb with
  | false =>
    have HF : Hid (sameT xs ys a b = false) := HV.out
    go_enter Tryz.func28, Tryz.ntmps28
    go_wp2_with fail
    rw [← HW2.out]
    refine (HSN.out).mono ?_
    rintro e w5 ⟨rfl, hb5⟩
    have HB5 := Lib.hid hb5
    clear hb5
    go_wp2
    go_ret
    exact ⟨by rw [HF.out]; rfl, HB2.out.trans (HB5.out.mono HB2.out.size)⟩
  | true =>
    have HF : Hid (sameT xs ys a b = sameX a b) := HV.out
    go_enter Tryz.func28, Tryz.ntmps28
    go_wp2_with fail
    rw [← HW2.out]
    refine (HSN.out).mono ?_
    rintro e w5 ⟨rfl, hb5⟩
    have HB5 := Lib.hid hb5
    have c1 : w5.cell? ⟨w.heap.size, 1, none⟩ = some (.slice pn nn cn) := (HXY.out.1.below hb5).cell rfl
    have d1 : w5.cell? ⟨w.heap.size + 1, 1, none⟩ = some (.slice qn mn dn) := (HXY.out.2.below hb5).cell rfl
    have HSY := Lib.hid (HSX.out w5 hb5)
    clear hb5
    go_wp2_with fail
    refine (HSY.out).mono ?_
    rintro e w6 ⟨rfl, k, rfl⟩
    go_wp2
    go_ret
    exact ⟨by rw [HF.out]; rfl, (HB2.out.trans (HB5.out.mono HB2.out.size)).trans ((drewN_below w5 k).mono (HB2.out.trans (HB5.out.mono HB2.out.size)).size)⟩
set_option maxRecDepth 100000 in
theorem same6_any (p q pn qn : Option Addr) (n m c d nn mn cn dn : Nat) (xs ys : List NV) (a b : List ByteArray) (w : World) (hn : n = xs.length) (hm : m = ys.length) (hl : n ≤ 1000000) (hp : SlN w p xs) (hq : SlN w q ys) (fx : Few xs) (fy : Few ys) (ha : nn = a.length) (hb : mn = b.length) (hla : nn ≤ 1000000) (hlb : mn ≤ 1000000) (hpa : SlX w pn a) (hqb : SlX w qn b) :
    Calls Tryz.prog 10 #[.agg #[.slice p n c, .slice pn nn cn], .agg #[.slice q m d, .slice qn mn dn]] w fun e w' => e = .returned (.bool (sameT xs ys a b)) ∧ Below w.heap.size w w' := by
  obtain ⟨W2, hW2⟩ : ∃ W, W = (w.alloc (.cells #[.slice p n c, .slice pn nn cn] 25)).alloc (.cells #[.slice q m d, .slice qn mn dn] 25) := ⟨_, rfl⟩
  have hb2 : Below w.heap.size w W2 := by rw [hW2]; exact bl_trans (bl_alloc _ _) (bl_alloc _ _)
  have HS := Lib.hid (sameTree_any p q pn qn n m c d nn mn cn dn xs ys a b W2 hn hm hl (hp.below hb2) (hq.below hb2) fx fy ha hb hla hlb (hpa.below hb2) (hqb.below hb2))
  have HB2 := Lib.hid hb2
  have HW2 := Lib.hid hW2
  clear hb2 hW2 hn hm hl hp hq fx fy ha hb hla hlb hpa hqb
  go_enter Tryz.func10, Tryz.ntmps10
  go_wp2_with fail
  rw [← HW2.out]
  refine (HS.out).mono ?_
  rintro e w5 ⟨rfl, hb5⟩
  have HB5 := Lib.hid hb5
  clear hb5
  go_wp2
  go_ret
  exact ⟨rfl, HB2.out.trans (HB5.out.mono HB2.out.size)⟩
end Go.Proofs.YtpiknmnhcpjfaaaGreat
