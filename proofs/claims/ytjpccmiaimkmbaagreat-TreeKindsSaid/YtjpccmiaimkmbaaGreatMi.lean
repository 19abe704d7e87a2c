/- The walk of SameNode. -/
import Derived.Test.YtjpccmiaimkmbaaGreatMh

namespace Go.Proofs.YtjpccmiaimkmbaaGreat
open Go.RowKit Tnr Tnt

def sameNd (a b : Nd) : Bool := a.kind == b.kind && (decide (a.set = b.set) && (decide (a.kids = b.kids) && (a.group == b.group && (a.mn == b.mn && (a.mx == b.mx && (a.mode == b.mode && (a.spot == b.spot && a.neg == b.neg)))))))
theorem sameNd_iff (a b : Nd) : sameNd a b = true ↔ a = b := by
  cases a; cases b
  simp [sameNd]
set_option maxHeartbeats 6400000 in
set_option maxRecDepth 100000 in
theorem sameNode_any (x y : NV) (w : World) (hx : NodeIn w x) (hy : NodeIn w y) (fx : x.nd.kids.length ≤ 1000000 ∧ x.nd.set.length ≤ 1000000) (fy : y.nd.kids.length ≤ 1000000 ∧ y.nd.set.length ≤ 1000000) :
    Calls Tryz.prog 47 #[.agg (encN x).toArray, .agg (encN y).toArray] w fun e w' => e = .returned (.bool (sameNd x.nd y.nd)) ∧ Below w.heap.size w w' := by
  obtain ⟨W2, hW2⟩ : ∃ W, W = (w.alloc (.cells (encN x).toArray 28)).alloc (.cells (encN y).toArray 28) := ⟨_, rfl⟩
  have hb2 : Below w.heap.size w W2 := by rw [hW2]; exact bl_trans (bl_alloc _ _) (bl_alloc _ _)
  have hX : Bx W2 w.heap.size 28 (encN x).toArray := by rw [hW2]; exact (Bx.new w _ _).below (bl_alloc _ _)
  have hY : Bx W2 (w.heap.size + 1) 28 (encN y).toArray := by
    have h := Bx.new (w.alloc (.cells (encN x).toArray 28)) 28 (encN y).toArray
    rw [World.size_alloc] at h; rw [hW2]; exact h
  have hx2 := hx.below hb2
  have hy2 := hy.below hb2
  have hcr := same_any x.ps y.ps x.cs y.cs x.nd.set y.nd.set W2 hx2.set hy2.set (by omega) (by omega)
  have hci : ∀ n, Calls Tryz.prog 27 #[.slice x.pk x.nd.kids.length x.ck, .slice y.pk y.nd.kids.length y.ck] (W2.drewN n) fun e w' => e = .returned (.bool (decide (x.nd.kids = y.nd.kids))) ∧ ∃ q, (W2.drewN n).drewN q = w' := fun n => sameZ_any x.pk y.pk x.ck y.ck x.nd.kids y.nd.kids _ (hx2.kids.drewn n) (hy2.kids.drewn n) (by omega) (by omega)
  obtain ⟨bs, hbs⟩ : ∃ b : Bool, b = decide (x.nd.set = y.nd.set) := ⟨_, rfl⟩
  obtain ⟨bk, hbk⟩ : ∃ b : Bool, b = decide (x.nd.kids = y.nd.kids) := ⟨_, rfl⟩
  have HV : Hid (sameNd x.nd y.nd = (x.nd.kind == y.nd.kind && (bs && (bk && (x.nd.group == y.nd.group && (x.nd.mn == y.nd.mn && (x.nd.mx == y.nd.mx && (x.nd.mode == y.nd.mode && (x.nd.spot == y.nd.spot && x.nd.neg == y.nd.neg)))))))))  := by show _ = _; unfold sameNd; rw [← hbs, ← hbk]
  rw [← hbs] at hcr
  simp only [← hbk] at hci
  obtain ⟨ls, lk, hls, hlk, h⟩ := node_lit2 x
  obtain ⟨ms, mk, hms, hmk, h'⟩ := node_lit2 y
  rw [← hls, ← hms] at hcr
  simp only [← hlk, ← hmk] at hci
  unfold NodeLit at h h'
  rw [h] at hX hW2 ⊢
  rw [h'] at hY hW2 ⊢
  obtain ⟨a0, a1, a2, a3, a4, a5, a6, a7, a8⟩ := nine hX
  obtain ⟨d0, d1, d2, d3, d4, d5, d6, d7, d8⟩ := nine hY
  obtain ⟨xk, hxk⟩ : ∃ z, z = x.nd.kind := ⟨_, rfl⟩
  obtain ⟨yk, hyk⟩ : ∃ z, z = y.nd.kind := ⟨_, rfl⟩
  obtain ⟨xg, hxg⟩ : ∃ z, z = x.nd.group := ⟨_, rfl⟩
  obtain ⟨yg, hyg⟩ : ∃ z, z = y.nd.group := ⟨_, rfl⟩
  obtain ⟨xn, hxn⟩ : ∃ z, z = x.nd.mn := ⟨_, rfl⟩
  obtain ⟨yn, hyn⟩ : ∃ z, z = y.nd.mn := ⟨_, rfl⟩
  obtain ⟨xm, hxm⟩ : ∃ z, z = x.nd.mx := ⟨_, rfl⟩
  obtain ⟨ym, hym⟩ : ∃ z, z = y.nd.mx := ⟨_, rfl⟩
  obtain ⟨xo, hxo⟩ : ∃ z, z = x.nd.mode := ⟨_, rfl⟩
  obtain ⟨yo, hyo⟩ : ∃ z, z = y.nd.mode := ⟨_, rfl⟩
  obtain ⟨xs, hxs⟩ : ∃ z, z = x.nd.spot := ⟨_, rfl⟩
  obtain ⟨ys, hys⟩ : ∃ z, z = y.nd.spot := ⟨_, rfl⟩
  obtain ⟨xt, hxt⟩ : ∃ z, z = x.nd.neg := ⟨_, rfl⟩
  obtain ⟨yt, hyt⟩ : ∃ z, z = y.nd.neg := ⟨_, rfl⟩
  rw [← hxk, ← hyk, ← hxg, ← hyg, ← hxn, ← hyn, ← hxm, ← hym, ← hxo, ← hyo, ← hxs, ← hys, ← hxt, ← hyt] at HV
  rw [← hxk] at a0
  rw [← hyk] at d0
  rw [← hxg] at a3
  rw [← hyg] at d3
  rw [← hxn] at a4
  rw [← hyn] at d4
  rw [← hxm] at a5
  rw [← hym] at d5
  rw [← hxo] at a6
  rw [← hyo] at d6
  rw [← hxs] at a7
  rw [← hys] at d7
  rw [← hxt] at a8
  rw [← hyt] at d8
  rw [← hxk, ← hxg, ← hxn, ← hxm, ← hxo, ← hxs, ← hxt] at hW2 ⊢
  rw [← hyk, ← hyg, ← hyn, ← hym, ← hyo, ← hys, ← hyt] at hW2 ⊢
  have HB2 := Lib.hid hb2
  have HB3 : Hid (∀ n, Below w.heap.size w (W2.drewN n)) := fun n => ⟨hb2.os, hb2.tape, hb2.output, hb2.size, hb2.block⟩
  rw [hW2] at hcr a0 a1 a2 a3 a4 a5 a6 a7 a8 d0 d1 d2 d3 d4 d5 d6 d7 d8 HB2 HB3
  simp only [hW2] at hci
  have HCR := Lib.hid hcr
  have HCI := Lib.hid hci
  clear hcr hci
  clear hb2 hX hY hx2 hy2 hbs hbk h h' hls hms hlk hmk hW2 hx hy fx fy hxk hyk hxg hyg hxn hyn hxm hym hxo hyo hxs hys hxt hyt
  by_cases hk : xk = yk
  · have ek : (xk == yk) = true := by simpa using hk
    clear hk
    cases bs with
    | true =>
      cases bk with
      | true =>
        by_cases hg : xg = yg
        · have eg : (xg == yg) = true := by simpa using hg
          clear hg
          by_cases hn : xn = yn
          · have en : (xn == yn) = true := by simpa using hn
            clear hn
            by_cases hm : xm = ym
            · have em : (xm == ym) = true := by simpa using hm
              clear hm
              by_cases ho : xo = yo
              · have eo : (xo == yo) = true := by simpa using ho
                clear ho
                by_cases hs : xs = ys
                · have es : (xs == ys) = true := by simpa using hs
                  clear hs
                  cases xt <;> cases yt
                  · skip
                    have HF : Hid (sameNd x.nd y.nd = true) := by show _ = _; rw [HV.out]; simp [ek, eg, en, em, eo, es]
                    go_enter Tryz.func47, Tryz.ntmps47
                    go_wp2_with (first | (go_at_call 77; refine (HCR.out).mono ?_; rintro e w5 ⟨rfl, n5, rfl⟩) | (go_at_call 27; refine (HCI.out _).mono ?_; rintro e w6 ⟨rfl, n6, rfl⟩))
                    go_ret
                    exact ⟨by rw [HF.out]; rfl, by first | exact HB3.out (n5 + n6) | (rw [World.drewN_drewN]; exact HB3.out (n5 + n6))⟩
                  · skip
                    have HF : Hid (sameNd x.nd y.nd = false) := by show _ = _; rw [HV.out]; simp [ek, eg, en, em, eo, es]
                    go_enter Tryz.func47, Tryz.ntmps47
                    go_wp2_with (first | (go_at_call 77; refine (HCR.out).mono ?_; rintro e w5 ⟨rfl, n5, rfl⟩) | (go_at_call 27; refine (HCI.out _).mono ?_; rintro e w6 ⟨rfl, n6, rfl⟩))
                    go_ret
                    exact ⟨by rw [HF.out]; rfl, by first | exact HB3.out (n5 + n6) | (rw [World.drewN_drewN]; exact HB3.out (n5 + n6))⟩
                  · skip
                    have HF : Hid (sameNd x.nd y.nd = false) := by show _ = _; rw [HV.out]; simp [ek, eg, en, em, eo, es]
                    go_enter Tryz.func47, Tryz.ntmps47
                    go_wp2_with (first | (go_at_call 77; refine (HCR.out).mono ?_; rintro e w5 ⟨rfl, n5, rfl⟩) | (go_at_call 27; refine (HCI.out _).mono ?_; rintro e w6 ⟨rfl, n6, rfl⟩))
                    go_ret
                    exact ⟨by rw [HF.out]; rfl, by first | exact HB3.out (n5 + n6) | (rw [World.drewN_drewN]; exact HB3.out (n5 + n6))⟩
                  · skip
                    have HF : Hid (sameNd x.nd y.nd = true) := by show _ = _; rw [HV.out]; simp [ek, eg, en, em, eo, es]
                    go_enter Tryz.func47, Tryz.ntmps47
                    go_wp2_with (first | (go_at_call 77; refine (HCR.out).mono ?_; rintro e w5 ⟨rfl, n5, rfl⟩) | (go_at_call 27; refine (HCI.out _).mono ?_; rintro e w6 ⟨rfl, n6, rfl⟩))
                    go_ret
                    exact ⟨by rw [HF.out]; rfl, by first | exact HB3.out (n5 + n6) | (rw [World.drewN_drewN]; exact HB3.out (n5 + n6))⟩
                · have es : (xs == ys) = false := by simpa using hs
                  clear hs
                  have HF : Hid (sameNd x.nd y.nd = false) := by show _ = _; rw [HV.out]; simp [ek, eg, en, em, eo, es]
                  go_enter Tryz.func47, Tryz.ntmps47
                  go_wp2_with (first | (go_at_call 77; refine (HCR.out).mono ?_; rintro e w5 ⟨rfl, n5, rfl⟩) | (go_at_call 27; refine (HCI.out _).mono ?_; rintro e w6 ⟨rfl, n6, rfl⟩))
                  go_ret
                  exact ⟨by rw [HF.out]; rfl, by first | exact HB3.out (n5 + n6) | (rw [World.drewN_drewN]; exact HB3.out (n5 + n6))⟩
              · have eo : (xo == yo) = false := by simpa using ho
                clear ho
                have HF : Hid (sameNd x.nd y.nd = false) := by show _ = _; rw [HV.out]; simp [ek, eg, en, em, eo]
                go_enter Tryz.func47, Tryz.ntmps47
                go_wp2_with (first | (go_at_call 77; refine (HCR.out).mono ?_; rintro e w5 ⟨rfl, n5, rfl⟩) | (go_at_call 27; refine (HCI.out _).mono ?_; rintro e w6 ⟨rfl, n6, rfl⟩))
                go_ret
                exact ⟨by rw [HF.out]; rfl, by first | exact HB3.out (n5 + n6) | (rw [World.drewN_drewN]; exact HB3.out (n5 + n6))⟩
            · have em : (xm == ym) = false := by simpa using hm
              clear hm
              have HF : Hid (sameNd x.nd y.nd = false) := by show _ = _; rw [HV.out]; simp [ek, eg, en, em]
              go_enter Tryz.func47, Tryz.ntmps47
              go_wp2_with (first | (go_at_call 77; refine (HCR.out).mono ?_; rintro e w5 ⟨rfl, n5, rfl⟩) | (go_at_call 27; refine (HCI.out _).mono ?_; rintro e w6 ⟨rfl, n6, rfl⟩))
              go_ret
              exact ⟨by rw [HF.out]; rfl, by first | exact HB3.out (n5 + n6) | (rw [World.drewN_drewN]; exact HB3.out (n5 + n6))⟩
          · have en : (xn == yn) = false := by simpa using hn
            clear hn
            have HF : Hid (sameNd x.nd y.nd = false) := by show _ = _; rw [HV.out]; simp [ek, eg, en]
            go_enter Tryz.func47, Tryz.ntmps47
            go_wp2_with (first | (go_at_call 77; refine (HCR.out).mono ?_; rintro e w5 ⟨rfl, n5, rfl⟩) | (go_at_call 27; refine (HCI.out _).mono ?_; rintro e w6 ⟨rfl, n6, rfl⟩))
            go_ret
            exact ⟨by rw [HF.out]; rfl, by first | exact HB3.out (n5 + n6) | (rw [World.drewN_drewN]; exact HB3.out (n5 + n6))⟩
        · have eg : (xg == yg) = false := by simpa using hg
          clear hg
          have HF : Hid (sameNd x.nd y.nd = false) := by show _ = _; rw [HV.out]; simp [ek, eg]
          go_enter Tryz.func47, Tryz.ntmps47
          go_wp2_with (first | (go_at_call 77; refine (HCR.out).mono ?_; rintro e w5 ⟨rfl, n5, rfl⟩) | (go_at_call 27; refine (HCI.out _).mono ?_; rintro e w6 ⟨rfl, n6, rfl⟩))
          go_ret
          exact ⟨by rw [HF.out]; rfl, by first | exact HB3.out (n5 + n6) | (rw [World.drewN_drewN]; exact HB3.out (n5 + n6))⟩
      | false =>
        have HF : Hid (sameNd x.nd y.nd = false) := by show _ = _; rw [HV.out]; simp [ek]
        go_enter Tryz.func47, Tryz.ntmps47
        go_wp2_with (first | (go_at_call 77; refine (HCR.out).mono ?_; rintro e w5 ⟨rfl, n5, rfl⟩) | (go_at_call 27; refine (HCI.out _).mono ?_; rintro e w6 ⟨rfl, n6, rfl⟩))
        go_ret
        exact ⟨by rw [HF.out]; rfl, by first | exact HB3.out (n5 + n6) | (rw [World.drewN_drewN]; exact HB3.out (n5 + n6))⟩
    | false =>
      have HF : Hid (sameNd x.nd y.nd = false) := by show _ = _; rw [HV.out]; simp [ek]
      go_enter Tryz.func47, Tryz.ntmps47
      go_wp2_with (go_at_call 77; refine (HCR.out).mono ?_; rintro e w5 ⟨rfl, n5, rfl⟩)
      go_ret
      exact ⟨by rw [HF.out]; rfl, HB3.out n5⟩
  · have ek : (xk == yk) = false := by simpa using hk
    clear hk
    have HF : Hid (sameNd x.nd y.nd = false) := by show _ = _; rw [HV.out]; simp [ek]
    go_enter Tryz.func47, Tryz.ntmps47
    go_wp2
    go_ret
    exact ⟨by rw [HF.out]; rfl, HB2.out⟩
end Go.Proofs.YtjpccmiaimkmbaaGreat
