import Derived.Test.YtkefndfgkmdphaaGreatFi
import Derived.Test.YtkefndfgkmdphaaGreatMh

namespace Go.Proofs.YtkefndfgkmdphaaGreat
set_option maxHeartbeats 6400000
set_option maxRecDepth 100000
open Go.RowKit Tnr Tnt

def sameNd (a b : Nd) : Bool := a.kind == b.kind && (decide (a.set = b.set) && (decide (a.kids = b.kids) && (a.group == b.group && (a.mn == b.mn && (a.mx == b.mx && (a.mode == b.mode && (a.spot == b.spot && a.neg == b.neg)))))))
theorem sameNd_iff (a b : Nd) : sameNd a b = true ↔ a = b := by
 cases a; cases b
 simp [sameNd]
theorem sameNode_any (x y : NV) (w : World) (hx : NodeIn w x) (hy : NodeIn w y) (fx : x.nd.kids.length ≤ 1000000 ∧ x.nd.set.length ≤ 1000000) (fy : y.nd.kids.length ≤ 1000000 ∧ y.nd.set.length ≤ 1000000) :
  Calls Tryz.prog 47 #[.agg (encN x).toArray, .agg (encN y).toArray] w fun e w' => e = .returned (.bool (sameNd x.nd y.nd)) ∧ Below w.heap.size w w' := by
 obtain ⟨W2, hW2⟩ : ∃ W, W = (w.alloc (.cells (encN x).toArray 28)).alloc (.cells (encN y).toArray 28) := ⟨_, rfl⟩
 have hb2 : Below w.heap.size w W2 := by rw [hW2]; exact bl_trans (bl_alloc _ _) (bl_alloc _ _)
 have hX : Bx W2 w.heap.size 28 (encN x).toArray := by rw [hW2]; exact (Bx.new w _ _).below (bl_alloc _ _)
 have hY : Bx W2 (w.heap.size + 1) 28 (encN y).toArray := by
  have h := Bx.new (w.alloc (.cells (encN x).toArray 28)) 28 (encN y).toArray
  rw [World.size_alloc] at h; rw [hW2]; exact h
 have hx2 := hx.below hb2
 have hy2 := hy.below hb2
 have hcr := same_any x.ps y.ps x.cs y.cs x.nd.set y.nd.set W2 hx2.set hy2.set (by omega) (by omega)
 have hci : ∀ n, Calls Tryz.prog 28 #[.slice x.pk x.nd.kids.length x.ck, .slice y.pk y.nd.kids.length y.ck] (W2.drewN n) fun e w' => e = .returned (.bool (decide (x.nd.kids = y.nd.kids))) ∧ ∃ q, (W2.drewN n).drewN q = w' := fun n => sameZ_any x.pk y.pk x.ck y.ck x.nd.kids y.nd.kids _ (hx2.kids.drewn n) (hy2.kids.drewn n) (by omega) (by omega)
 obtain ⟨bs, hbs⟩ : ∃ b : Bool, b = decide (x.nd.set = y.nd.set) := ⟨_, rfl⟩
 obtain ⟨bk, hbk⟩ : ∃ b : Bool, b = decide (x.nd.kids = y.nd.kids) := ⟨_, rfl⟩
 have HV : Hid (sameNd x.nd y.nd = (x.nd.kind == y.nd.kind && (bs && (bk && (x.nd.group == y.nd.group && (x.nd.mn == y.nd.mn && (x.nd.mx == y.nd.mx && (x.nd.mode == y.nd.mode && (x.nd.spot == y.nd.spot && x.nd.neg == y.nd.neg)))))))))  := by show _ = _; unfold sameNd; rw [← hbs, ← hbk]
 rw [← hbs] at hcr
 simp only [← hbk] at hci
 obtain ⟨ls, lk, hls, hlk, h⟩ := node_lit2 x
 obtain ⟨ms, mk, hms, hmk, h'⟩ := node_lit2 y
 rw [← hls, ← hms] at hcr
 simp only [← hlk, ← hmk] at hci
 unfold NodeLit at h h'
 rw [h] at hX hW2 ⊢
 rw [h'] at hY hW2 ⊢
 obtain ⟨a0, a1, a2, a3, a4, a5, a6, a7, a8⟩ := nine hX
 obtain ⟨d0, d1, d2, d3, d4, d5, d6, d7, d8⟩ := nine hY
 obtain ⟨xk, hxk⟩ : ∃ z, z = x.nd.kind := ⟨_, rfl⟩
 obtain ⟨yk, hyk⟩ : ∃ z, z = y.nd.kind := ⟨_, rfl⟩
 obtain ⟨xg, hxg⟩ : ∃ z, z = x.nd.group := ⟨_, rfl⟩
 obtain ⟨yg, hyg⟩ : ∃ z, z = y.nd.group := ⟨_, rfl⟩
 obtain ⟨xn, hxn⟩ : ∃ z, z = x.nd.mn := ⟨_, rfl⟩
 obtain ⟨yn, hyn⟩ : ∃ z, z = y.nd.mn := ⟨_, rfl⟩
 obtain ⟨xm, hxm⟩ : ∃ z, z = x.nd.mx := ⟨_, rfl⟩
 obtain ⟨ym, hym⟩ : ∃ z, z = y.nd.mx := ⟨_, rfl⟩
 obtain ⟨xo, hxo⟩ : ∃ z, z = x.nd.mode := ⟨_, rfl⟩
 obtain ⟨yo, hyo⟩ : ∃ z, z = y.nd.mode := ⟨_, rfl⟩
 obtain ⟨xs, hxs⟩ : ∃ z, z = x.nd.spot := ⟨_, rfl⟩
 obtain ⟨ys, hys⟩ : ∃ z, z = y.nd.spot := ⟨_, rfl⟩
 obtain ⟨xt, hxt⟩ : ∃ z, z = x.nd.neg := ⟨_, rfl⟩
 obtain ⟨yt, hyt⟩ : ∃ z, z = y.nd.neg := ⟨_, rfl⟩
 rw [← hxk, ← hyk, ← hxg, ← hyg, ← hxn, ← hyn, ← hxm, ← hym, ← hxo, ← hyo, ← hxs, ← hys, ← hxt, ← hyt] at HV
 rw [← hxk] at a0
 rw [← hyk] at d0
 rw [← hxg] at a3
 rw [← hyg] at d3
 rw [← hxn] at a4
 rw [← hyn] at d4
 rw [← hxm] at a5
 rw [← hym] at d5
 rw [← hxo] at a6
 rw [← hyo] at d6
 rw [← hxs] at a7
 rw [← hys] at d7
 rw [← hxt] at a8
 rw [← hyt] at d8
 rw [← hxk, ← hxg, ← hxn, ← hxm, ← hxo, ← hxs, ← hxt] at hW2 ⊢
 rw [← hyk, ← hyg, ← hyn, ← hym, ← hyo, ← hys, ← hyt] at hW2 ⊢
 have HB2 := lh hb2
 have HB3 : Hid (∀ n, Below w.heap.size w (W2.drewN n)) := fun n => ⟨hb2.os, hb2.tape, hb2.output, hb2.size, hb2.block⟩
 rw [hW2] at hcr a0 a1 a2 a3 a4 a5 a6 a7 a8 d0 d1 d2 d3 d4 d5 d6 d7 d8 HB2 HB3
 simp only [hW2] at hci
 have HCR := lh hcr
 have HCI := lh hci
 clear hcr hci
 clear hb2 hX hY hx2 hy2 hbs hbk h h' hls hms hlk hmk hW2 hx hy fx fy hxk hyk hxg hyg hxn hyn hxm hym hxo hyo hxs hys hxt hyt
 by_cases hk : xk = yk
 ·have ek : (xk == yk) = true := by simpa using hk
  clear hk
  cases bs with
  | true =>
   cases bk with
   | true =>
    by_cases hg : xg = yg
    ·have eg : (xg == yg) = true := by simpa using hg
     clear hg
     by_cases hn : xn = yn
     ·have en : (xn == yn) = true := by simpa using hn
      clear hn
      by_cases hm : xm = ym
      ·have em : (xm == ym) = true := by simpa using hm
       clear hm
       by_cases ho : xo = yo
       ·have eo : (xo == yo) = true := by simpa using ho
        clear ho
        by_cases hs : xs = ys
        ·have es : (xs == ys) = true := by simpa using hs
         clear hs
         cases xt <;> cases yt
         ·skip
          have HF : Hid (sameNd x.nd y.nd = true) := by show _ = _; rw [HV.out]; simp [ek, eg, en, em, eo, es]
          go_enter Tryz.func47, Tryz.ntmps47
          go_wp2_with (first | (go_at_call 83; refine (HCR.out).mono ?_; rintro e w5 ⟨rfl, n5, rfl⟩) | (go_at_call 28; refine (HCI.out _).mono ?_; rintro e w6 ⟨rfl, n6, rfl⟩))
          go_ret
          exact ⟨by rw [HF.out]; rfl, by first | exact HB3.out (n5 + n6) | (rw [World.drewN_drewN]; exact HB3.out (n5 + n6))⟩
         ·skip
          have HF : Hid (sameNd x.nd y.nd = false) := by show _ = _; rw [HV.out]; simp [ek, eg, en, em, eo, es]
          go_enter Tryz.func47, Tryz.ntmps47
          go_wp2_with (first | (go_at_call 83; refine (HCR.out).mono ?_; rintro e w5 ⟨rfl, n5, rfl⟩) | (go_at_call 28; refine (HCI.out _).mono ?_; rintro e w6 ⟨rfl, n6, rfl⟩))
          go_ret
          exact ⟨by rw [HF.out]; rfl, by first | exact HB3.out (n5 + n6) | (rw [World.drewN_drewN]; exact HB3.out (n5 + n6))⟩
         ·skip
          have HF : Hid (sameNd x.nd y.nd = false) := by show _ = _; rw [HV.out]; simp [ek, eg, en, em, eo, es]
          go_enter Tryz.func47, Tryz.ntmps47
          go_wp2_with (first | (go_at_call 83; refine (HCR.out).mono ?_; rintro e w5 ⟨rfl, n5, rfl⟩) | (go_at_call 28; refine (HCI.out _).mono ?_; rintro e w6 ⟨rfl, n6, rfl⟩))
          go_ret
          exact ⟨by rw [HF.out]; rfl, by first | exact HB3.out (n5 + n6) | (rw [World.drewN_drewN]; exact HB3.out (n5 + n6))⟩
         ·skip
          have HF : Hid (sameNd x.nd y.nd = true) := by show _ = _; rw [HV.out]; simp [ek, eg, en, em, eo, es]
          go_enter Tryz.func47, Tryz.ntmps47
          go_wp2_with (first | (go_at_call 83; refine (HCR.out).mono ?_; rintro e w5 ⟨rfl, n5, rfl⟩) | (go_at_call 28; refine (HCI.out _).mono ?_; rintro e w6 ⟨rfl, n6, rfl⟩))
          go_ret
          exact ⟨by rw [HF.out]; rfl, by first | exact HB3.out (n5 + n6) | (rw [World.drewN_drewN]; exact HB3.out (n5 + n6))⟩
        ·have es : (xs == ys) = false := by simpa using hs
         clear hs
         have HF : Hid (sameNd x.nd y.nd = false) := by show _ = _; rw [HV.out]; simp [ek, eg, en, em, eo, es]
         go_enter Tryz.func47, Tryz.ntmps47
         go_wp2_with (first | (go_at_call 83; refine (HCR.out).mono ?_; rintro e w5 ⟨rfl, n5, rfl⟩) | (go_at_call 28; refine (HCI.out _).mono ?_; rintro e w6 ⟨rfl, n6, rfl⟩))
         go_ret
         exact ⟨by rw [HF.out]; rfl, by first | exact HB3.out (n5 + n6) | (rw [World.drewN_drewN]; exact HB3.out (n5 + n6))⟩
       ·have eo : (xo == yo) = false := by simpa using ho
        clear ho
        have HF : Hid (sameNd x.nd y.nd = false) := by show _ = _; rw [HV.out]; simp [ek, eg, en, em, eo]
        go_enter Tryz.func47, Tryz.ntmps47
        go_wp2_with (first | (go_at_call 83; refine (HCR.out).mono ?_; rintro e w5 ⟨rfl, n5, rfl⟩) | (go_at_call 28; refine (HCI.out _).mono ?_; rintro e w6 ⟨rfl, n6, rfl⟩))
        go_ret
        exact ⟨by rw [HF.out]; rfl, by first | exact HB3.out (n5 + n6) | (rw [World.drewN_drewN]; exact HB3.out (n5 + n6))⟩
      ·have em : (xm == ym) = false := by simpa using hm
       clear hm
       have HF : Hid (sameNd x.nd y.nd = false) := by show _ = _; rw [HV.out]; simp [ek, eg, en, em]
       go_enter Tryz.func47, Tryz.ntmps47
       go_wp2_with (first | (go_at_call 83; refine (HCR.out).mono ?_; rintro e w5 ⟨rfl, n5, rfl⟩) | (go_at_call 28; refine (HCI.out _).mono ?_; rintro e w6 ⟨rfl, n6, rfl⟩))
       go_ret
       exact ⟨by rw [HF.out]; rfl, by first | exact HB3.out (n5 + n6) | (rw [World.drewN_drewN]; exact HB3.out (n5 + n6))⟩
     ·have en : (xn == yn) = false := by simpa using hn
      clear hn
      have HF : Hid (sameNd x.nd y.nd = false) := by show _ = _; rw [HV.out]; simp [ek, eg, en]
      go_enter Tryz.func47, Tryz.ntmps47
      go_wp2_with (first | (go_at_call 83; refine (HCR.out).mono ?_; rintro e w5 ⟨rfl, n5, rfl⟩) | (go_at_call 28; refine (HCI.out _).mono ?_; rintro e w6 ⟨rfl, n6, rfl⟩))
      go_ret
      exact ⟨by rw [HF.out]; rfl, by first | exact HB3.out (n5 + n6) | (rw [World.drewN_drewN]; exact HB3.out (n5 + n6))⟩
    ·have eg : (xg == yg) = false := by simpa using hg
     clear hg
     have HF : Hid (sameNd x.nd y.nd = false) := by show _ = _; rw [HV.out]; simp [ek, eg]
     go_enter Tryz.func47, Tryz.ntmps47
     go_wp2_with (first | (go_at_call 83; refine (HCR.out).mono ?_; rintro e w5 ⟨rfl, n5, rfl⟩) | (go_at_call 28; refine (HCI.out _).mono ?_; rintro e w6 ⟨rfl, n6, rfl⟩))
     go_ret
     exact ⟨by rw [HF.out]; rfl, by first | exact HB3.out (n5 + n6) | (rw [World.drewN_drewN]; exact HB3.out (n5 + n6))⟩
   | false =>
    have HF : Hid (sameNd x.nd y.nd = false) := by show _ = _; rw [HV.out]; simp [ek]
    go_enter Tryz.func47, Tryz.ntmps47
    go_wp2_with (first | (go_at_call 83; refine (HCR.out).mono ?_; rintro e w5 ⟨rfl, n5, rfl⟩) | (go_at_call 28; refine (HCI.out _).mono ?_; rintro e w6 ⟨rfl, n6, rfl⟩))
    go_ret
    exact ⟨by rw [HF.out]; rfl, by first | exact HB3.out (n5 + n6) | (rw [World.drewN_drewN]; exact HB3.out (n5 + n6))⟩
  | false =>
   have HF : Hid (sameNd x.nd y.nd = false) := by show _ = _; rw [HV.out]; simp [ek]
   go_enter Tryz.func47, Tryz.ntmps47
   go_wp2_with (go_at_call 83; refine (HCR.out).mono ?_; rintro e w5 ⟨rfl, n5, rfl⟩)
   go_ret
   exact ⟨by rw [HF.out]; rfl, HB3.out n5⟩
 ·have ek : (xk == yk) = false := by simpa using hk
  clear hk
  have HF : Hid (sameNd x.nd y.nd = false) := by show _ = _; rw [HV.out]; simp [ek]
  go_enter Tryz.func47, Tryz.ntmps47
  go_wp2
  go_ret
  exact ⟨by rw [HF.out]; rfl, HB2.out⟩
end Go.Proofs.YtkefndfgkmdphaaGreat


namespace Go.Proofs.YtkefndfgkmdphaaGreat
set_option maxHeartbeats 3200000
set_option maxRecDepth 100000
open Go.RowKit Tnr Tnt

instance : DecidableEq Nd := fun a b => decidable_of_iff (sameNd a b = true) (sameNd_iff a b)
theorem nds_at {xs : List NV} {i : Nat} (h : i < xs.length) : (nds xs)[i]'(by rw [nds_length]; exact h) = (gn xs i).nd := by
 unfold nds; rw [List.getElem_map, gn_get h]
theorem ext_nds {xs ys : List NV} (h : xs.length = ys.length) (h2 : ∀ j, j < xs.length → (gn xs j).nd = (gn ys j).nd) : nds xs = nds ys := by
 refine List.ext_getElem (by rw [nds_length, nds_length, h]) fun i h1 h3 => ?_
 rw [nds_length] at h1 h3
 rw [nds_at h1, nds_at h3]; exact h2 i h1
theorem nds_no {xs ys : List NV} {i : Nat} (h : i < xs.length) (h3 : i < ys.length) (hne : (gn xs i).nd ≠ (gn ys i).nd) : nds xs ≠ nds ys := fun e => by
 have h1 : (nds xs)[i]'(by rw [nds_length]; exact h) = (nds ys)[i]'(by rw [nds_length]; exact h3) := by simp [e]
 rw [nds_at h, nds_at h3] at h1
 exact hne h1
theorem sameNodes_any (p q : Option Addr) (n m c d : Nat) (xs ys : List NV) (w : World) (hn : n = xs.length) (hm : m = ys.length) (hl : n ≤ 1000000) (hp : SlN w p xs) (hq : SlN w q ys) (fx : Few xs) (fy : Few ys) :
  Calls Tryz.prog 80 #[.slice p n c, .slice q m d] w fun e w' => e = .returned (.bool (decide (nds xs = nds ys))) ∧ Below w.heap.size w w' := by
 by_cases hne : n = m
 ·have HP := lh hp
  have HQ := lh hq
  have HN := lh (show xs.length = n ∧ ys.length = n by omega)
  have HF := lh (And.intro fx fy)
  subst hne
  have hnI : (n : Int) ≤ 1000000 := by omega
  clear hp hq hn hm hl fx fy
  go_enter Tryz.func80, Tryz.ntmps80
  go_wp2
  go_loopw [5] (fun iv wr => ∃ (k : Nat), k ≤ n ∧ iv = .int .i64 (k : Nat) ∧ Hid (∀ j, j < k → (gn xs j).nd = (gn ys j).nd) ∧ Hid (Below w.heap.size w wr)) (fun iv _ => n - (intOf iv).toNat)
  case atStart => exact ⟨0, Nat.zero_le _, rfl, fun j hj => absurd hj (by omega), Below.refl _ _⟩
  case round =>
   obtain ⟨k, hk, rfl, HE, HW⟩ := hrel
   rename World => wr
   by_cases hkn : k < n
   ·have hkx : k < xs.length := by have := HN.out; omega
    have hky : k < ys.length := by have := HN.out; omega
    have hkI : (k : Int) < n := by omega
    have hw1 : Below wr.heap.size wr wr.drew := bl_drew wr
    obtain ⟨b1, o1, rfl, hc1, hin1⟩ := ((HP.out.below HW.out).below hw1).at hkx
    obtain ⟨b2, o2, rfl, hc2, hin2⟩ := ((HQ.out.below HW.out).below hw1).at hky
    have HSN : Hid (∀ V, Below wr.drew.heap.size wr.drew V → Calls Tryz.prog 47 #[.agg (encN (gn xs k)).toArray, .agg (encN (gn ys k)).toArray] V fun e w' => e = .returned (.bool (sameNd (gn xs k).nd (gn ys k).nd)) ∧ Below V.heap.size V w') := fun V hV =>
     sameNode_any (gn xs k) (gn ys k) V (hin1.below hV) (hin2.below hV) (HF.out.1 _ (gn_mem hkx)) (HF.out.2 _ (gn_mem hky))
    have HNO : Hid (sameNd (gn xs k).nd (gn ys k).nd = false → decide (nds xs = nds ys) = false) := fun h => decide_eq_false (nds_no hkx hky (fun e => by rw [(sameNd_iff _ _).2 e] at h; cases h))
    have HYS : Hid (sameNd (gn xs k).nd (gn ys k).nd = true → ∀ j, j < k + 1 → (gn xs j).nd = (gn ys j).nd) := fun h j hj => by
     by_cases hjk : j < k
     ·exact HE.out j hjk
     ·obtain rfl : j = k := by omega
      exact (sameNd_iff _ _).1 h
    obtain ⟨x, hx⟩ : ∃ x, x = gn xs k := ⟨_, rfl⟩
    obtain ⟨y, hy⟩ : ∃ x, x = gn ys k := ⟨_, rfl⟩
    rw [← hx] at hc1 HSN HNO HYS
    rw [← hy] at hc2 HSN HNO HYS
    obtain ⟨bb, hbb⟩ : ∃ b : Bool, b = sameNd x.nd y.nd := ⟨_, rfl⟩
    rw [← hbb] at HSN HNO HYS
    obtain ⟨ls, lk, hls, hlk, h⟩ := node_lit2 x
    obtain ⟨ms, mk, hms, hmk, h'⟩ := node_lit2 y
    unfold NodeLit at h h'
    rw [h, h'] at HSN
    obtain ⟨a0, a1, a2, a3, a4, a5, a6, a7, a8⟩ := hc1
    obtain ⟨d0, d1, d2, d3, d4, d5, d6, d7, d8⟩ := hc2
    rw [← hls] at a1
    rw [← hlk] at a2
    rw [← hms] at d1
    rw [← hmk] at d2
    obtain ⟨C, hC⟩ : ∃ C : World → Prop, C = fun V => Below wr.drew.heap.size wr.drew V ∧
     V.cell? ⟨b1, o1 + k * 9, none⟩ = some (.int .u8 x.nd.kind) ∧ V.cell? ⟨b1, o1 + k * 9 + 1, none⟩ = some (.slice x.ps ls x.cs) ∧ V.cell? ⟨b1, o1 + k * 9 + 2, none⟩ = some (.slice x.pk lk x.ck) ∧ V.cell? ⟨b1, o1 + k * 9 + 3, none⟩ = some (.int .i64 x.nd.group) ∧ V.cell? ⟨b1, o1 + k * 9 + 4, none⟩ = some (.int .i64 x.nd.mn) ∧ V.cell? ⟨b1, o1 + k * 9 + 5, none⟩ = some (.int .i64 x.nd.mx) ∧ V.cell? ⟨b1, o1 + k * 9 + 6, none⟩ = some (.int .u8 x.nd.mode) ∧ V.cell? ⟨b1, o1 + k * 9 + 7, none⟩ = some (.int .u8 x.nd.spot) ∧ V.cell? ⟨b1, o1 + k * 9 + 8, none⟩ = some (.bool x.nd.neg) ∧
     V.cell? ⟨b2, o2 + k * 9, none⟩ = some (.int .u8 y.nd.kind) ∧ V.cell? ⟨b2, o2 + k * 9 + 1, none⟩ = some (.slice y.ps ms y.cs) ∧ V.cell? ⟨b2, o2 + k * 9 + 2, none⟩ = some (.slice y.pk mk y.ck) ∧ V.cell? ⟨b2, o2 + k * 9 + 3, none⟩ = some (.int .i64 y.nd.group) ∧ V.cell? ⟨b2, o2 + k * 9 + 4, none⟩ = some (.int .i64 y.nd.mn) ∧ V.cell? ⟨b2, o2 + k * 9 + 5, none⟩ = some (.int .i64 y.nd.mx) ∧ V.cell? ⟨b2, o2 + k * 9 + 6, none⟩ = some (.int .u8 y.nd.mode) ∧ V.cell? ⟨b2, o2 + k * 9 + 7, none⟩ = some (.int .u8 y.nd.spot) ∧ V.cell? ⟨b2, o2 + k * 9 + 8, none⟩ = some (.bool y.nd.neg) := ⟨_, rfl⟩
    have HC : Hid (∀ V, Below wr.drew.heap.size wr.drew V → C V) := by
     intro V hV
     have kp : ∀ {b i : Nat} {v : Value}, wr.drew.cell? ⟨b, i, none⟩ = some v → V.cell? ⟨b, i, none⟩ = some v := fun {b i v} h => cell_below h hV
     rw [hC]
     exact ⟨hV, kp a0, kp a1, kp a2, kp a3, kp a4, kp a5, kp a6, kp a7, kp a8, kp d0, kp d1, kp d2, kp d3, kp d4, kp d5, kp d6, kp d7, kp d8⟩
    have HF2 : Hid (∀ V, C V → Calls Tryz.prog 47 #[.agg #[.int .u8 x.nd.kind, .slice x.ps ls x.cs, .slice x.pk lk x.ck, .int .i64 x.nd.group, .int .i64 x.nd.mn, .int .i64 x.nd.mx, .int .u8 x.nd.mode, .int .u8 x.nd.spot, .bool x.nd.neg], .agg #[.int .u8 y.nd.kind, .slice y.ps ms y.cs, .slice y.pk mk y.ck, .int .i64 y.nd.group, .int .i64 y.nd.mn, .int .i64 y.nd.mx, .int .u8 y.nd.mode, .int .u8 y.nd.spot, .bool y.nd.neg]] V fun e w' => e = .returned (.bool bb) ∧ C w') := by
     intro V hV
     rw [hC] at hV
     exact (HSN.out V hV.1).mono fun e w' ⟨h1, h2⟩ => ⟨h1, HC.out w' (hV.1.trans (h2.mono hV.1.size))⟩
    have hCd : C wr.drew := HC.out _ (Below.refl _ _)
    have HB1 : Hid (∀ V, Below wr.drew.heap.size wr.drew V → Below w.heap.size w V) := fun V hV => HW.out.trans ((hw1.trans (hV.mono hw1.size)).mono HW.out.size)
    clear HC HSN hx hy hbb h h' hls hlk hms hmk a0 a1 a2 a3 a4 a5 a6 a7 a8 d0 d1 d2 d3 d4 d5 d6 d7 d8 hin1 hin2 hkx hky hw1
    go_wp2
    refine wp_region_quiet (C := C) (by kernel_rfl) (by kernel_rfl) hCd ?_
    clear hCd
    subst hC
    dsimp only
    iterate 8 (refine BigFrame.wpQuiet_want (by kernel_rfl) (fun K hK => ?_); refine ⟨?_, fun V hV => ?_, hK _ ?_⟩; rotate_left; (focus (unfold Oper.quietAt; dsimp only at hV; go_simp; try with_reducible rfl)); clear hK K; (try simp only [Act.put, sb]))
    refine BigFrame.wpQuiet_want (by kernel_rfl) (fun K hK => ?_)
    refine ⟨.bool bb, fun V hV => ?_, hK _ ?_⟩
    ·have HV := lh hV
     clear hV hK
     unfold Oper.quietAt
     go_simp
     exact HF2.out V HV.out
    clear hK K
    try simp only [Act.put, sb]
    (refine BigFrame.wpQuiet_want (by kernel_rfl) (fun K hK => ?_); refine ⟨?_, fun V hV => ?_, hK _ ?_⟩; rotate_left; (focus (unfold Oper.quietAt; dsimp only at hV; go_simp; try with_reducible rfl)); clear hK K; (try simp only [Act.put, sb]))
    refine wpQuiet_nil ?_
    intro w5 hV
    have HV := lh hV.1
    clear hV
    cases bb with
    | true =>
     go_wp2
     go_roundw
     case rel => exact ⟨k + 1, by omega, by go_num, HYS.out (by first | rfl | trivial), HB1.out _ HV.out⟩
     case measure => simp [intOf]; omega
    | false =>
     go_wp2
     go_ret
     exact ⟨by rw [HNO.out (by first | rfl | trivial)]; rfl, HB1.out _ HV.out⟩
   ·have hkI : (n : Int) ≤ k := by omega
    have HT : Hid (decide (nds xs = nds ys) = true) := decide_eq_true (ext_nds (by have := HN.out; omega) (fun j hj => HE.out j (by have := HN.out; omega)))
    go_wp2
    go_ret
    exact ⟨by rw [HT.out]; rfl, HW.out⟩
 ·have hb : ((n : Int) != (m : Int)) = true := by simp; omega
  have HT : Hid (decide (nds xs = nds ys) = false) := decide_eq_false (fun e => by have := congrArg List.length e; rw [nds_length, nds_length] at this; omega)
  clear hp hq hne hn hm fx fy
  go_enter Tryz.func80, Tryz.ntmps80
  go_wp2
  go_ret
  exact ⟨by rw [HT.out]; rfl, Below.refl _ _⟩
end Go.Proofs.YtkefndfgkmdphaaGreat


namespace Go.Proofs.YtkefndfgkmdphaaGreat
set_option maxHeartbeats 3200000
set_option maxRecDepth 100000
open Go.RowKit Tnr Tnt

def sameT (xs ys : List NV) (a b : List ByteArray) : Bool := decide (nds xs = nds ys) && sameX a b
theorem sameTree_any (p q pn qn : Option Addr) (n m c d nn mn cn dn : Nat) (xs ys : List NV) (a b : List ByteArray) (w : World) (hn : n = xs.length) (hm : m = ys.length) (hl : n ≤ 1000000) (hp : SlN w p xs) (hq : SlN w q ys) (fx : Few xs) (fy : Few ys) (ha : nn = a.length) (hb : mn = b.length) (hla : nn ≤ 1000000) (hlb : mn ≤ 1000000) (hpa : SlX w pn a) (hqb : SlX w qn b) :
  Calls Tryz.prog 41 #[.agg #[.slice p n c, .slice pn nn cn], .agg #[.slice q m d, .slice qn mn dn]] w fun e w' => e = .returned (.bool (sameT xs ys a b)) ∧ Below w.heap.size w w' := by
 obtain ⟨W2, hW2⟩ : ∃ W, W = (w.alloc (.cells #[.slice p n c, .slice pn nn cn] 34)).alloc (.cells #[.slice q m d, .slice qn mn dn] 34) := ⟨_, rfl⟩
 have hb2 : Below w.heap.size w W2 := by rw [hW2]; exact bl_trans (bl_alloc _ _) (bl_alloc _ _)
 have hX : Bx W2 w.heap.size 34 #[.slice p n c, .slice pn nn cn] := by rw [hW2]; exact (Bx.new w _ _).below (bl_alloc _ _)
 have hY : Bx W2 (w.heap.size + 1) 34 #[.slice q m d, .slice qn mn dn] := by
  have h := Bx.new (w.alloc (.cells #[.slice p n c, .slice pn nn cn] 34)) 34 #[.slice q m d, .slice qn mn dn]
  rw [World.size_alloc] at h; rw [hW2]; exact h
 have HSN := lh (sameNodes_any p q n m c d xs ys W2 hn hm hl (hp.below hb2) (hq.below hb2) fx fy)
 have HSX : Hid (∀ V, Below W2.heap.size W2 V → Calls Tryz.prog 81 #[.slice pn nn cn, .slice qn mn dn] V fun e w' => e = .returned (.bool (sameX a b)) ∧ ∃ k, V.drewN k = w') := fun V hV => by
  rw [ha, hb]; exact sameX_any pn qn cn dn a b V ((hpa.below hb2).below hV) ((hqb.below hb2).below hV) (by omega) (by omega)
 have HV : Hid (sameT xs ys a b = (decide (nds xs = nds ys) && sameX a b)) := rfl
 have HXY := lh (And.intro hX hY)
 have HB2 := lh hb2
 have HW2 := lh hW2
 obtain ⟨sb, hsb⟩ : ∃ s : Bool, s = decide (nds xs = nds ys) := ⟨_, rfl⟩
 rw [← hsb] at HSN HV
 clear hsb hb2 hX hY hW2 hn hm hl hp hq fx fy ha hb hla hlb hpa hqb
 cases sb with
 | false =>
  have HF : Hid (sameT xs ys a b = false) := HV.out
  go_enter Tryz.func41, Tryz.ntmps41
  go_wp2_with fail
  rw [← HW2.out]
  refine (HSN.out).mono ?_
  rintro e w5 ⟨rfl, hb5⟩
  have HB5 := lh hb5
  clear hb5
  go_wp2
  go_ret
  exact ⟨by rw [HF.out]; rfl, HB2.out.trans (HB5.out.mono HB2.out.size)⟩
 | true =>
  have HF : Hid (sameT xs ys a b = sameX a b) := HV.out
  go_enter Tryz.func41, Tryz.ntmps41
  go_wp2_with fail
  rw [← HW2.out]
  refine (HSN.out).mono ?_
  rintro e w5 ⟨rfl, hb5⟩
  have HB5 := lh hb5
  have c1 : w5.cell? ⟨w.heap.size, 1, none⟩ = some (.slice pn nn cn) := (HXY.out.1.below hb5).cell rfl
  have d1 : w5.cell? ⟨w.heap.size + 1, 1, none⟩ = some (.slice qn mn dn) := (HXY.out.2.below hb5).cell rfl
  have HSY := lh (HSX.out w5 hb5)
  clear hb5
  go_wp2_with fail
  refine (HSY.out).mono ?_
  rintro e w6 ⟨rfl, k, rfl⟩
  go_wp2
  go_ret
  exact ⟨by rw [HF.out]; rfl, (HB2.out.trans (HB5.out.mono HB2.out.size)).trans ((drewN_below w5 k).mono (HB2.out.trans (HB5.out.mono HB2.out.size)).size)⟩
theorem same6_any (p q pn qn : Option Addr) (n m c d nn mn cn dn : Nat) (xs ys : List NV) (a b : List ByteArray) (w : World) (hn : n = xs.length) (hm : m = ys.length) (hl : n ≤ 1000000) (hp : SlN w p xs) (hq : SlN w q ys) (fx : Few xs) (fy : Few ys) (ha : nn = a.length) (hb : mn = b.length) (hla : nn ≤ 1000000) (hlb : mn ≤ 1000000) (hpa : SlX w pn a) (hqb : SlX w qn b) :
  Calls Tryz.prog 11 #[.agg #[.slice p n c, .slice pn nn cn], .agg #[.slice q m d, .slice qn mn dn]] w fun e w' => e = .returned (.bool (sameT xs ys a b)) ∧ Below w.heap.size w w' := by
 obtain ⟨W2, hW2⟩ : ∃ W, W = (w.alloc (.cells #[.slice p n c, .slice pn nn cn] 34)).alloc (.cells #[.slice q m d, .slice qn mn dn] 34) := ⟨_, rfl⟩
 have hb2 : Below w.heap.size w W2 := by rw [hW2]; exact bl_trans (bl_alloc _ _) (bl_alloc _ _)
 have HS := lh (sameTree_any p q pn qn n m c d nn mn cn dn xs ys a b W2 hn hm hl (hp.below hb2) (hq.below hb2) fx fy ha hb hla hlb (hpa.below hb2) (hqb.below hb2))
 have HB2 := lh hb2
 have HW2 := lh hW2
 clear hb2 hW2 hn hm hl hp hq fx fy ha hb hla hlb hpa hqb
 go_enter Tryz.func11, Tryz.ntmps11
 go_wp2_with fail
 rw [← HW2.out]
 refine (HS.out).mono ?_
 rintro e w5 ⟨rfl, hb5⟩
 have HB5 := lh hb5
 clear hb5
 go_wp2
 go_ret
 exact ⟨rfl, HB2.out.trans (HB5.out.mono HB2.out.size)⟩
end Go.Proofs.YtkefndfgkmdphaaGreat

