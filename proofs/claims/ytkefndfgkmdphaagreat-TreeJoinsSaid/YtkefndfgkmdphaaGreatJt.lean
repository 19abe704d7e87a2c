import Derived.Test.YtkefndfgkmdphaaGreatFi
import Derived.Test.YtkefndfgkmdphaaGreatJq
import Derived.Test.YtkefndfgkmdphaaGreatJn
import Derived.Test.YtkefndfgkmdphaaGreatLe
import Derived.RegionTactic
import Derived.Test.YtkefndfgkmdphaaGreatLj

namespace Go.Proofs.YtkefndfgkmdphaaGreat
set_option maxHeartbeats 3200000
set_option maxRecDepth 100000
open Go.RowKit Tnr Tnt

theorem node_lit4 (y : NV) (L : List Int) (ls lk : Nat) (h1 : ls = y.nd.set.length) (h2 : lk = y.nd.kids.length) (h3 : lk = L.length) : ∃ (v0 v3 v4 v5 v6 v7 : Int) (v8 : Bool), (encN y).toArray = #[.int .u8 v0, .slice y.ps ls y.cs, .slice y.pk lk y.ck, .int .i64 v3, .int .i64 v4, .int .i64 v5, .int .u8 v6, .int .u8 v7, .bool v8] ∧ (encN ⟨{ y.nd with kids := L }, y.ps, y.cs, y.pk, y.ck⟩).toArray = #[.int .u8 v0, .slice y.ps ls y.cs, .slice y.pk lk y.ck, .int .i64 v3, .int .i64 v4, .int .i64 v5, .int .u8 v6, .int .u8 v7, .bool v8] := by
 refine ⟨y.nd.kind, y.nd.group, y.nd.mn, y.nd.mx, y.nd.mode, y.nd.spot, y.nd.neg, ?_, ?_⟩
 ·rw [h1, h2]; rfl
 ·rw [h1, h3]; rfl
def MvPost (d : Int) (x : NV) (w : World) (e : Ending) (w' : World) : Prop :=
 ∃ y, e = .returned (.agg (encN y).toArray) ∧ y.nd = mv d x.nd ∧ OwnR w' w.heap.size (.slice y.ps x.nd.set.length y.cs) x.nd.set ∧ OwnZ w' w.heap.size (.slice y.pk x.nd.kids.length y.ck) (x.nd.kids.map fun k => w64 (k + d)) ∧ Below w.heap.size w w'
theorem rmoved_any (x : NV) (d : Int) (w : World) (hI : NodeIn w x) (h3k : x.nd.kids.length ≤ 1000000) (h3s : x.nd.set.length ≤ 1000000) :
  Calls Tryz.prog 40 #[.agg (encN x).toArray, .int .i64 d] w (MvPost d x w) := by
 obtain ⟨u0, u1, u2, u3, u4, u5, u6, u7, u8, hlit⟩ : ∃ v0 v1 v2 v3 v4 v5 v6 v7 v8, (encN x).toArray = #[v0, v1, v2, v3, v4, v5, v6, v7, v8] := ⟨_, _, _, _, _, _, _, _, _, rfl⟩
 obtain ⟨W2, hW2⟩ : ∃ W, W = (w.alloc (.cells (encN x).toArray 28)).alloc (.cells #[.int .u8 0, .slice none 0 0, .slice none 0 0, .int .i64 0, .int .i64 0, .int .i64 0, .int .u8 0, .int .u8 0, .bool false] 28) := ⟨_, rfl⟩
 have hb2 : Below w.heap.size w W2 := by rw [hW2]; exact bl_trans (bl_alloc _ _) (bl_alloc _ _)
 have hX : Bx W2 w.heap.size 28 (encN x).toArray := by rw [hW2]; exact (Bx.new w _ _).below (bl_alloc _ _)
 have hR : Bx W2 (w.heap.size + 1) 28 #[.int .u8 0, .slice none 0 0, .slice none 0 0, .int .i64 0, .int .i64 0, .int .i64 0, .int .u8 0, .int .u8 0, .bool false] := by
  have h := Bx.new (w.alloc (.cells (encN x).toArray 28)) 28 #[.int .u8 0, .slice none 0 0, .slice none 0 0, .int .i64 0, .int .i64 0, .int .i64 0, .int .u8 0, .int .u8 0, .bool false]
  rw [World.size_alloc] at h; rw [hW2]; exact h
 have hs2 : W2.heap.size = w.heap.size + 1 + 1 := by rw [hW2]; simp
 have HCP := lh (copyNode_any x W2 (hI.below hb2) h3k h3s)
 unfold Hid at HCP
 rw [hlit] at hX hW2 HCP ⊢
 have HCP := lh HCP
 obtain ⟨bx, hbx⟩ : ∃ b, b = w.heap.size := ⟨_, rfl⟩
 obtain ⟨br, hbr⟩ : ∃ b, b = bx + 1 := ⟨_, rfl⟩
 rw [← hbx] at hX
 rw [← hbx, ← hbr] at hR
 have HNB : Hid (w.heap.size = bx ∧ bx + 1 = br ∧ W2.heap.size = br + 1) := ⟨hbx.symm, hbr.symm, by rw [hs2, hbr, hbx]⟩
 have HW2 := lh hW2.symm
 have HB2 := lh hb2
 have HR := lh hR
 have HK := lh (And.intro h3k h3s)
 clear hI h3k h3s hW2 hb2 hR hs2 hbx hbr hlit
 go_enter Tryz.func40, Tryz.ntmps40
 go_upto_region 1 with fail
 rw [HW2.out, HNB.out.1, HNB.out.2.1]
 obtain ⟨a0, a1, a2, a3, a4, a5, a6, a7, a8⟩ := nine hX
 clear hX
 go_wp2_with fail
 refine (HCP.out).mono ?_
 rintro e w3 ⟨y, rfl, hy, hb3⟩
 clear a0 a1 a2 a3 a4 a5 a6 a7 a8
 obtain ⟨ls, hls⟩ : ∃ n, n = x.nd.set.length := ⟨_, rfl⟩
 obtain ⟨lk, hlk⟩ : ∃ n, n = x.nd.kids.length := ⟨_, rfl⟩
 obtain ⟨v0, v3, v4, v5, v6, v7, v8, hl1, hl2⟩ := node_lit4 y (x.nd.kids.map fun k => w64 (k + d)) ls lk (by rw [hy.nd]; exact hls) (by rw [hy.nd]; exact hlk) (by rw [List.length_map]; exact hlk)
 obtain ⟨qs, hqs⟩ : ∃ z, z = y.ps := ⟨_, rfl⟩
 obtain ⟨es, hes⟩ : ∃ z, z = y.cs := ⟨_, rfl⟩
 obtain ⟨qk, hqk⟩ : ∃ z, z = y.pk := ⟨_, rfl⟩
 obtain ⟨ek, hek⟩ : ∃ z, z = y.ck := ⟨_, rfl⟩
 have hys := hy.set
 have hyk := hy.kids
 rw [← hls, ← hqs, ← hes] at hys
 rw [← hlk, ← hqk, ← hek] at hyk
 rw [← hqs, ← hes, ← hqk, ← hek] at hl1 hl2
 rw [hl1]
 obtain ⟨w4, hw4⟩ : ∃ W, W = w3.alloc (.cells #[.int .u8 v0, .slice qs ls es, .slice qk lk ek, .int .i64 v3, .int .i64 v4, .int .i64 v5, .int .u8 v6, .int .u8 v7, .bool v8] 28) := ⟨_, rfl⟩
 obtain ⟨bc, hbc⟩ : ∃ b, b = w3.heap.size := ⟨_, rfl⟩
 have hb4 : Below w3.heap.size w3 w4 := by rw [hw4]; exact bl_alloc _ _
 have HC4 : Hid (Bx w4 bc 28 #[.int .u8 v0, .slice qs ls es, .slice qk lk ek, .int .i64 v3, .int .i64 v4, .int .i64 v5, .int .u8 v6, .int .u8 v7, .bool v8]) := by show Bx _ _ _ _; rw [hw4, hbc]; exact Bx.new w3 _ _
 have HR4 := lh ((HR.out.below hb3).below hb4)
 have HS4 := lh (ownR_below hys hb4)
 have HK4 := lh (ownZ_below hyk hb4)
 have HB4 := lh (HB2.out.trans ((bl_trans hb3 hb4).mono HB2.out.size))
 have HBC : Hid (W2.heap.size ≤ bc) := by show _ ≤ _; rw [hbc]; exact hb3.size
 have HW4 := lh (And.intro hw4.symm hbc.symm)
 have HNE : Hid (br ≠ bc) := by show _ ≠ _; have := HNB.out; have := HBC.out; omega
 have HL := lh (And.intro hls hlk)
 have HL2 := lh hl2
 have HYN := lh hy.nd
 have HLK : Hid (lk ≤ 1000000) := by show _ ≤ _; rw [hlk]; exact HK.out.1
 clear hw4 hbc hb4 hb3 hy hys hyk hls hlk hl1 hl2 hqs hes hqk hek
 go_wp2
 rw [HW4.out.2, HW4.out.1]
 go_loopw [6] (fun jv wq => ∃ (j : Nat), j ≤ lk ∧ jv = .int .i64 (j : Nat) ∧ Hid (Bx wq bc 28 #[.int .u8 v0, .slice qs ls es, .slice qk lk ek, .int .i64 v3, .int .i64 v4, .int .i64 v5, .int .u8 v6, .int .u8 v7, .bool v8]) ∧ Hid (Bx wq br 28 #[.int .u8 0, .slice none 0 0, .slice none 0 0, .int .i64 0, .int .i64 0, .int .i64 0, .int .u8 0, .int .u8 0, .bool false]) ∧ Hid (OwnR wq W2.heap.size (.slice qs ls es) x.nd.set) ∧ Hid (OwnZ wq W2.heap.size (.slice qk lk ek) (mvd d x.nd.kids j)) ∧ Hid (Below w.heap.size w wq)) (fun jv _ => lk - (intOf jv).toNat)
 case atStart => exact ⟨0, Nat.zero_le _, rfl, HC4.out, HR4.out, HS4.out, by show OwnZ _ _ _ (mvd d x.nd.kids 0); rw [mvd_zero]; exact HK4.out, HB4.out⟩
 case round =>
  obtain ⟨j, hj, rfl, HC, HRr, HS, HKd, HB⟩ := hrel
  rename World => wq
  have hlkI : (lk : Int) ≤ 1000000 := by have := HLK.out; omega
  have c2 := (nine HC.out).2.2.1
  by_cases hjk : j < lk
  ·have hjx : j < x.nd.kids.length := by have := HL.out.2; omega
   have hlen : lk = (mvd d x.nd.kids j).length := by rw [mvd_length _ _ _ (by omega)]; exact HL.out.2
   obtain ⟨g, rfl, hgB, hgc, hgf, cs, hgh⟩ := ownZ_at HKd.out hlen hjk
   rw [mvd_at hjx] at hgc
   obtain ⟨z, hz⟩ : ∃ z, z = gz x.nd.kids j := ⟨_, rfl⟩
   rw [← hz] at hgc
   have hjI : (j : Int) < lk := by omega
   have HZ := lh hz
   have HLEN := lh hlen
   have HGB := lh hgB
   have HGH := lh hgh
   have HJX := lh hjx
   have HN1 : Hid (bc ≠ g) := fun e => by
    have := HC.out
    unfold Bx at this
    rw [e, hgh] at this
    simp at this
   have HN2 : Hid (br ≠ g) := fun e => by
    have := HRr.out
    unfold Bx at this
    rw [e, hgh] at this
    simp at this
   clear hlen hgB hgh hjx hz
   go_wp2
   go_region
   go_wp2
   go_roundw
   case rel =>
    refine ⟨j + 1, by omega, by go_num, ?_, ?_, ?_, ?_, ?_⟩
    ·exact (HC.out.other (a := ⟨g, j, none⟩) HN1.out _).below (bl_drew _)
    ·exact (HRr.out.other (a := ⟨g, j, none⟩) HN2.out _).below (bl_drew _)
    ·exact ownR_below (ownsRow_setCell_other (a := ⟨g, j, none⟩) HS.out (ownR_ne HS.out HGH.out (by decide)) _) (bl_drew _)
    ·have := ownZ_set HKd.out HLEN.out j (w64 (gz x.nd.kids j + d))
     rw [mvd_set HJX.out, w64_wrap, ← HZ.out] at this
     exact ownZ_below this (bl_drew _)
    ·exact (HB.out.setCell (p := ⟨g, j, none⟩) (Nat.le_trans HB2.out.size HGB.out) _).drew
   case measure => simp [intOf]; omega
  ·obtain rfl : lk = j := by omega
   have hjI : (lk : Int) ≤ lk := by omega
   have hend : mvd d x.nd.kids lk = x.nd.kids.map fun k => w64 (k + d) := by rw [HL.out.2]; exact mvd_end _ _
   rw [hend] at HKd
   clear hend hjk c2
   obtain ⟨m0, m1, m2, m3, m4, m5, m6, m7, m8⟩ := nine HC.out
   obtain ⟨n0, n1, n2, n3, n4, n5, n6, n7, n8⟩ := nine HRr.out
   have fz0 := HRr.out.free 0
   have fz1 := HRr.out.free 1
   have fz2 := HRr.out.free 2
   have fz3 := HRr.out.free 3
   have fz4 := HRr.out.free 4
   have fz5 := HRr.out.free 5
   have fz6 := HRr.out.free 6
   have fz7 := HRr.out.free 7
   have fz8 := HRr.out.free 8
   have hY := bx_putN9 HRr.out (.int .u8 v0) (.slice qs ls es) (.slice qk lk ek) (.int .i64 v3) (.int .i64 v4) (.int .i64 v5) (.int .u8 v6) (.int .u8 v7) (.bool v8)
   have hO7 := own_putN9 HS.out (ownR_ne HS.out HRr.out (by decide)) (.int .u8 v0) (.slice qs ls es) (.slice qk lk ek) (.int .i64 v3) (.int .i64 v4) (.int .i64 v5) (.int .u8 v6) (.int .u8 v7) (.bool v8)
   have hP7 := own_putN9 HKd.out (row_ne HKd.out HRr.out (by decide)) (.int .u8 v0) (.slice qs ls es) (.slice qk lk ek) (.int .i64 v3) (.int .i64 v4) (.int .i64 v5) (.int .u8 v6) (.int .u8 v7) (.bool v8)
   have hb7 := below_putN9 HB.out (show w.heap.size ≤ br by have := HNB.out; omega) (.int .u8 v0) (.slice qs ls es) (.slice qk lk ek) (.int .i64 v3) (.int .i64 v4) (.int .i64 v5) (.int .u8 v6) (.int .u8 v7) (.bool v8)
   obtain ⟨r0, r1, r2, r3, r4, r5, r6, r7, r8⟩ := nine hY
   unfold putN9 at r0 r1 r2 r3 r4 r5 r6 r7 r8
   have HFIN : Hid (OwnR (putN9 wq br (.int .u8 v0) (.slice qs ls es) (.slice qk lk ek) (.int .i64 v3) (.int .i64 v4) (.int .i64 v5) (.int .u8 v6) (.int .u8 v7) (.bool v8)) w.heap.size (.slice qs x.nd.set.length es) x.nd.set ∧ OwnZ (putN9 wq br (.int .u8 v0) (.slice qs ls es) (.slice qk lk ek) (.int .i64 v3) (.int .i64 v4) (.int .i64 v5) (.int .u8 v6) (.int .u8 v7) (.bool v8)) w.heap.size (.slice qk x.nd.kids.length ek) (x.nd.kids.map fun k => w64 (k + d)) ∧ Below w.heap.size w (putN9 wq br (.int .u8 v0) (.slice qs ls es) (.slice qk lk ek) (.int .i64 v3) (.int .i64 v4) (.int .i64 v5) (.int .u8 v6) (.int .u8 v7) (.bool v8))) := by
    rw [← HL.out.1, ← HL.out.2]
    exact ⟨ownR_down hO7 HB2.out.size, ownZ_down hP7 HB2.out.size, hb7⟩
   have HMV : Hid ((⟨mv d x.nd, qs, es, qk, ek⟩ : NV).nd = mv d x.nd) := rfl
   have HENC : Hid (Value.agg (encN ⟨mv d x.nd, qs, es, qk, ek⟩).toArray = .agg #[.int .u8 v0, .slice qs ls es, .slice qk lk ek, .int .i64 v3, .int .i64 v4, .int .i64 v5, .int .u8 v6, .int .u8 v7, .bool v8]) := by
    show _ = _
    have h2 := HL2.out
    rw [HYN.out] at h2
    rw [← h2]; rfl
   clear hY hO7 hP7 hb7
   go_wp2
   refine bodyPost_ret (v := .agg #[.int .u8 v0, .slice qs ls es, .slice qk lk ek, .int .i64 v3, .int .i64 v4, .int .i64 v5, .int .u8 v6, .int .u8 v7, .bool v8]) (by simp [results, Tryz.results40, go_sem, r0, r1, r2, r3, r4, r5, r6, r7, r8]) rfl ⟨⟨mv d x.nd, qs, es, qk, ek⟩, by rw [HENC.out], rfl, HFIN.out.1, HFIN.out.2.1, HFIN.out.2.2⟩
end Go.Proofs.YtkefndfgkmdphaaGreat


namespace Go.Proofs.YtkefndfgkmdphaaGreat
open Go.RowKit Tnr Tnt

theorem node_lit5 (y : NV) (ls lk : Nat) (h1 : ls = y.nd.set.length) (h2 : lk = y.nd.kids.length) : ∃ (v0 v3 v4 v5 v6 v7 : Int) (v8 : Bool), (encN y).toArray = #[.int .u8 v0, .slice y.ps ls y.cs, .slice y.pk lk y.ck, .int .i64 v3, .int .i64 v4, .int .i64 v5, .int .u8 v6, .int .u8 v7, .bool v8] ∧ ∀ (L : List Int) (r : Option Addr) (nl cr : Nat), nl = L.length → (encN ⟨{ y.nd with kids := L }, y.ps, y.cs, r, cr⟩) = [.int .u8 v0, .slice y.ps ls y.cs, .slice r nl cr, .int .i64 v3, .int .i64 v4, .int .i64 v5, .int .u8 v6, .int .u8 v7, .bool v8] := by
 refine ⟨y.nd.kind, y.nd.group, y.nd.mn, y.nd.mx, y.nd.mode, y.nd.spot, y.nd.neg, ?_, fun L r nl cr h3 => ?_⟩
 ·rw [h1, h2]; rfl
 ·rw [h1, h3]; rfl
theorem bx_apart {w : World} {b b' : Nat} {T T' : TypeId} {cs cs' : Array Value} (h : Bx w b T cs) (h' : Bx w b' T' cs') (hT : T ≠ T') : b ≠ b' := fun e => by
 unfold Bx at h h'
 rw [e, h'] at h
 simp only [Option.some.injEq, Obj.cells.injEq] at h
 exact hT h.2.1.symm
theorem kept_beside {w w' : World} {B B' z n z' n' : Nat} {T T' : TypeId} {v u : Value} {xs us : List Value} (hr : w.ownsRow B T z v n xs) (ho : w.ownsRow B' T' z' u n' us) (hT : T ≠ T') (hg : w.grownBy w' u.ownBlock) : w'.ownsRow B T z v n xs := by
 refine World.ownsRow.kept hr hg ?_
 rcases ho.2 with ⟨e1, _⟩ | ⟨g, cap, cur, e1, _, hh, _⟩
 ·rw [e1]
  rcases hv : v.ownBlock with _ | g2
  ·exact .inl rfl
  ·exact .inr (by simp [Value.ownBlock])
 ·rw [e1]; exact .inr (row_ne hr hh (Ne.symm hT))
structure JS (w : World) (B bT bN br : Nat) (cN : Value → Array Value) (S : List R) (sv : Value) (na nl : Nat) (q : Option Addr) (cq : Nat) (ys : List NV) (r : Option Addr) (cr : Nat) (L : List Int) : Prop where
 tree : Bx w bT 34 #[.slice q na cq, .slice none 0 0]
 node : Bx w bN 28 (cN (.slice r nl cr))
 res : Bx w br 34 #[.slice none 0 0, .slice none 0 0]
 set : OwnR w B sv S
 nodes : OwnN w B (.slice q na cq) ys
 kids : OwnZ w B (.slice r nl cr) L
 hna : na = ys.length
 hnl : nl = L.length
 ne : (Value.slice q na cq).ownBlock ≠ some bN
 ap : ∀ g, (Value.slice r nl cr).ownBlock = some g → ∀ y ∈ ys, (Value.slice y.pk y.nd.kids.length y.ck).ownBlock ≠ some g
theorem JS.below {w w' : World} {B bT bN br : Nat} {cN : Value → Array Value} {S : List R} {sv : Value} {na nl : Nat} {q : Option Addr} {cq : Nat} {ys : List NV} {r : Option Addr} {cr : Nat} {L : List Int} (h : JS w B bT bN br cN S sv na nl q cq ys r cr L) (hb : Below w.heap.size w w') : JS w' B bT bN br cN S sv na nl q cq ys r cr L :=
 ⟨h.tree.below hb, h.node.below hb, h.res.below hb, ownR_below h.set hb, h.nodes.below hb, ownZ_below h.kids hb, h.hna, h.hnl, h.ne, h.ap⟩
set_option maxRecDepth 10000 in
theorem JS.more {w w' : World} {B bT bN br : Nat} {cN : Value → Array Value} {S : List R} {sv : Value} {na nl : Nat} {q : Option Addr} {cq : Nat} {ys : List NV} {r : Option Addr} {cr : Nat} {L : List Int} (h : JS w B bT bN br cN S sv na nl q cq ys r cr L) {y : NV} {g cap : Nat} (hbr : br ≠ bT) (hs : OwnR w B (.slice y.ps y.nd.set.length y.cs) y.nd.set) (hk : OwnZ w B (.slice y.pk y.nd.kids.length y.ck) y.nd.kids)
  (hap : ∀ g, (Value.slice r nl cr).ownBlock = some g → (Value.slice y.pk y.nd.kids.length y.ck).ownBlock ≠ some g)
  (hown : w'.ownsRow B 28 9 (.slice (some ⟨g, 0, none⟩) (na + 1) cap) (na + 1) (ys.flatMap encN ++ encN y)) (hg : w.grownBy w' (Value.slice q na cq).ownBlock) (hat : (Value.slice q na cq).ownBlock = some g ∨ g = w.heap.size) :
  JS (w'.setCell ⟨bT, 0, none⟩ (.slice (some ⟨g, 0, none⟩) (na + 1) cap)) B bT bN br cN S sv (na + 1) nl (some ⟨g, 0, none⟩) cap (ys ++ [y]) r cr L := by
 have nT := row_ne h.nodes.row h.tree (by decide)
 have nR := row_ne h.nodes.row h.res (by decide)
 have kT : Bx w' bT 34 #[.slice q na cq, .slice none 0 0] := h.tree.kept hg (Ne.symm nT)
 have kN := h.node.kept hg (Ne.symm h.ne)
 have kR := h.res.kept hg (Ne.symm nR)
 have hS : OwnR w' B sv S := kept_beside h.set h.nodes.row (by decide) hg
 have hZ : OwnZ w' B (.slice r nl cr) L := kept_beside h.kids h.nodes.row (by decide) hg
 have hM : OwnN w' B (.slice (some ⟨g, 0, none⟩) (na + 1) cap) (ys ++ [y]) := OwnN.more h.nodes h.hna hs hk hown hg
 refine ⟨kT.set 0 _, kN.other (a := ⟨bT, 0, none⟩) (bx_apart h.node h.tree (by decide)) _, kR.other (a := ⟨bT, 0, none⟩) hbr _, ownsRow_setCell_other (a := ⟨bT, 0, none⟩) hS (ownR_ne hS kT (by decide)) _, hM.other kT (by decide) (by decide) (by decide) 0 _, ownsRow_setCell_other (a := ⟨bT, 0, none⟩) hZ (row_ne hZ kT (by decide)) _, by rw [List.length_append, ← h.hna]; rfl, h.hnl, ?_, ?_⟩
 ·intro e
  simp only [Value.ownBlock, Option.some.injEq] at e
  rcases hat with h1 | h1
  ·exact h.ne (by rw [h1, e])
  ·have := h.node.lt; omega
 ·intro g' hg' y' hy'
  rcases List.mem_append.1 hy' with h1 | h1
  ·exact h.ap g' hg' y' h1
  ·simp only [List.mem_singleton] at h1
   subst h1; exact hap g' hg'
set_option maxRecDepth 10000 in
theorem JS.kid {w w' : World} {B bT bN br : Nat} {cN : Value → Array Value} {S : List R} {sv : Value} {na nl : Nat} {q : Option Addr} {cq : Nat} {ys : List NV} {r : Option Addr} {cr : Nat} {L : List Int} (h : JS w B bT bN br cN S sv na nl q cq ys r cr L) {x : Int} {g cap : Nat} (hcN : ∀ u v, ((cN u).modify 2 fun _ => v) = cN v)
  (hown : w'.ownsRow B 3 1 (.slice (some ⟨g, 0, none⟩) (nl + 1) cap) (nl + 1) (L.map (Value.int .i64) ++ [.int .i64 x])) (hg : w.grownBy w' (Value.slice r nl cr).ownBlock) (hat : (Value.slice r nl cr).ownBlock = some g ∨ g = w.heap.size) :
  JS (w'.setCell ⟨bN, 2, none⟩ (.slice (some ⟨g, 0, none⟩) (nl + 1) cap)) B bT bN br cN S sv na (nl + 1) q cq ys (some ⟨g, 0, none⟩) cap (L ++ [x]) := by
 have kT := h.tree.kept hg (Ne.symm (row_ne h.kids h.tree (by decide)))
 have kN := h.node.kept hg (Ne.symm (row_ne h.kids h.node (by decide)))
 have kR := h.res.kept hg (Ne.symm (row_ne h.kids h.res (by decide)))
 have hS : OwnR w' B sv S := kept_beside h.set h.kids (by decide) hg
 have hZ : OwnZ w' B (.slice (some ⟨g, 0, none⟩) (nl + 1) cap) (L ++ [x]) := ownZ_appended h.hnl hown
 have hM : OwnN w' B (.slice q na cq) ys := by
  refine ⟨kept_beside h.nodes.row h.kids (by decide) hg, fun y hy => kept_beside (h.nodes.set y hy) h.kids (by decide) hg, fun y hy => ?_⟩
  refine World.ownsRow.kept (h.nodes.kids y hy) hg ?_
  rcases hv : (Value.slice y.pk y.nd.kids.length y.ck).ownBlock with _ | g'
  ·exact .inl rfl
  ·exact .inr fun e => h.ap g' e.symm y hy hv
 have nB : ∀ {T : TypeId} {z n : Nat} {v : Value} {xs : List Value}, T ≠ 28 → w'.ownsRow B T z v n xs → (w'.setCell ⟨bN, 2, none⟩ (.slice (some ⟨g, 0, none⟩) (nl + 1) cap)).ownsRow B T z v n xs := fun {T z n v xs} hT hr => ownsRow_setCell_other (a := ⟨bN, 2, none⟩) hr (row_ne hr kN (Ne.symm hT)) _
 have hnode := kN.set 2 (.slice (some ⟨g, 0, none⟩) (nl + 1) cap)
 rw [hcN] at hnode
 refine ⟨kT.other (a := ⟨bN, 2, none⟩) (bx_apart h.tree h.node (by decide)) _, hnode, kR.other (a := ⟨bN, 2, none⟩) (bx_apart h.res h.node (by decide)) _, nB (by decide) hS, ⟨ownsRow_setCell_other (a := ⟨bN, 2, none⟩) hM.row h.ne _, fun y hy => nB (by decide) (hM.set y hy), fun y hy => nB (by decide) (hM.kids y hy)⟩, nB (by decide) hZ, h.hna, by rw [List.length_append, ← h.hnl]; rfl, h.ne, ?_⟩
 intro g' hg' y hy e
 simp only [Value.ownBlock, Option.some.injEq] at hg'
 subst hg'
 rcases hat with h1 | h1
 ·exact h.ap g h1 y hy e
 ·have := (World.ownsRow.lt (h.nodes.kids y hy) g e).2
  omega
end Go.Proofs.YtkefndfgkmdphaaGreat

