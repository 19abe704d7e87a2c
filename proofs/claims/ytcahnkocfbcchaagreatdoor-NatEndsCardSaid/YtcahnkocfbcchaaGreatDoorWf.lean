/- The walk of a number's product with a row of digits. -/
/- The walks of minus, one, Of, and of a number's end. -/
import Derived.Test.YtcahnkocfbcchaaGreatDoorWd

namespace Go.Proofs.YtcahnkocfbcchaaGreatDoor
open Go.RowKit Tnd

theorem mul_enters : ∀ args w, (callFunc 98 args).run Tryz.prog w = .ok (.enter 98 args) w := enters_of Tryz.func98 (by kernel_rfl) rfl
theorem mul_step (m : Nat) (hm : m < 4294967296) (b : Nat) : StepOk 98 #[.pointer (some ⟨b, 0, none⟩)] (mulF m) (fun w => w.cell? ⟨b, 0, none⟩ = some (.int .u32 (m : Nat))) 4294967296 (fun c => c < 4294967296) := by
  intro x y c yi w hI hx hy hy2 hc
  subst hy
  refine ⟨(mulF_carry m x y c hm hx hy2 hc).2, ?_⟩
  exact (mulS_any m x y c ⟨b, 0, none⟩ w hm hy2 hx hc hI).mono fun e w' ⟨h1, h2⟩ => ⟨h1, 0, h2.symm⟩

def TimesPost (nb B : Nat) (l ys : List Nat) (w : World) (e : Ending) (w' : World) : Prop :=
  e = .returned (.tuple #[]) ∧ Below B w w' ∧ ∃ l', Num w' nb B l' ∧ RightL l' ∧ nv 4294967296 l' = nv 4294967296 l * nv 4294967296 ys ∧ l'.length ≤ l.length + ys.length

set_option maxRecDepth 100000 in
theorem times_any (nb B : Nat) (l ys : List Nat) (p : Option Addr) (cy : Nat) (w : World)
    (hn : Num w nb B l) (hBn : B ≤ nb) (hy : Old w w.heap.size p ys) (hys : Digs 4294967296 ys)
    (hl : l.length ≤ 100000000000) (hyl : ys.length ≤ 100000000000) :
    Calls Tryz.prog 51 #[.pointer (some ⟨nb, 0, none⟩), .slice p ys.length cy] w (TimesPost nb B l ys w) := by
  obtain ⟨s, hv, hown, hdig⟩ := hn
  obtain ⟨i0, hi, hz0, hz1, hz2⟩ := info_parts info_u32
  have hmf : ∀ (fn : Fn) (first cap : Array Value) (w : World), (Instr.makeFunc fn first cap).run Tryz.prog w = .ok (.func fn first cap) w := fun _ _ _ _ => rfl
  obtain ⟨p0, c0, hs, hlc, hcm, hnil, hsl, _⟩ := own_form hown
  subst hs
  have hnb := lt_of_block hv
  have hc := cell_of_one hv
  have HNE := Lib.hid (own_ne hown hv (by decide))
  have HV := Lib.hid hv
  have HO := Lib.hid hown
  have HY := Lib.hid hy
  have HYS := Lib.hid hys
  have HD := Lib.hid hdig
  have HSL := Lib.hid hsl
  clear hy hys hdig hv hown hnil hsl
  go_enter Tryz.func51, Tryz.ntmps51
  go_wp2_with (at_make; refine wpList_make_full _ rfl _ _ 52 rfl B 46 i0 (.int .u32 0) 1 Tryz.underlying52 hi hz0 hz1 .i64 .i64 _ _ (l.length + ys.length) rfl rfl ?m1 ?m2 ?m3 ?m4 ?m5 ?_)
  case m1 => push_cast; rfl
  case m2 => push_cast; rfl
  case m3 => rw [hz2]; omega
  case m4 => simp only [maxLen]; omega
  case m5 => omega
  intro w1 hown1 hgrow1
  have hb1 : Below w.heap.size w w1 := (Below.refl _ _).grown hgrow1 (Nat.le_refl _) (by simp)
  have hO1 : Own w1 w.heap.size 46 .u32 (.slice (some ⟨w.heap.size, 0, none⟩) (l.length + ys.length) (l.length + ys.length)) (List.replicate (l.length + ys.length) 0) := by
    refine (own_at (B := B) ?_).2
    unfold Own
    rw [List.length_replicate, List.map_replicate, ← toList_madeCells_one]
    exact hown1
  have hc1 : w1.cell? ⟨nb, 0, none⟩ = some (.slice p0 l.length c0) := by rw [hb1.cell (by simpa using hnb)]; exact hc
  have HB1 := Lib.hid hb1
  have HO1 := Lib.hid hO1
  clear hb1 hO1 hown1 hgrow1 hi hz0 hz1 hz2 hc
  go_wp2
  go_loopw [22] (fun i wr => ∃ (k : Nat) (N : List Nat), k ≤ l.length ∧ i = .int .i64 k ∧ Hid (MulInv l ys k N) ∧ Hid (Below w.heap.size w wr) ∧ Hid (Own wr w.heap.size 46 .u32 (.slice (some ⟨w.heap.size, 0, none⟩) (l.length + ys.length) (l.length + ys.length)) N)) (fun i _ => l.length - (intOf i).toNat)
  case atStart => exact ⟨0, _, by omega, rfl, MulInv.start l ys, HB1, HO1⟩
  case round =>
    obtain ⟨k, N, hk, rfl, HI, HB, HON⟩ := hrel
    rename World => wr
    clear hc1
    by_cases hk1 : k < l.length
    · have hcell : ∃ b off, p0 = some ⟨b, off, none⟩ ∧ wr.cell? ⟨b, off + k, none⟩ = some (.int .u32 (gd l k : Nat)) := by
        rcases HSL.out with h | ⟨b, off, h1, h2⟩
        · subst h; simp at hk1
        · have h3 := h2 k hk1
          have h4 := World.block_lt_of_cell? w _ h3
          exact ⟨b, off, h1, by rw [HB.out.cell (by simpa using h4)]; exact h3⟩
      obtain ⟨pb, po, rfl, hck⟩ := hcell
      have hm : gd l k < 4294967296 := gd_lt HD.out (by omega) k
      have hstep := HI.out.step hk1 HD.out HYS.out
      generalize hgm : gd l k = m at *
      have HST := Lib.hid hstep
      have HGM := Lib.hid hgm
      clear hstep hgm
      have hNl : N.length = l.length + ys.length := HI.out.len
      have hal := along_any 98 #[.pointer (some ⟨wr.heap.size, 0, none⟩)] mul_enters (mulF m) (fun w => w.cell? ⟨wr.heap.size, 0, none⟩ = some (.int .u32 (m : Nat))) 4294967296 (fun c => c < 4294967296) w.heap.size
        (fun w1 w2 h1 h2 => h2.cell h1 (by have := HB.out.size; have := (HON.out.lt w.heap.size rfl).2; simp; omega)) (mul_step m hm wr.heap.size) k ys.length (l.length + ys.length - k) 0 p ys N (l.length + ys.length) cy (wr.alloc (.cells #[.int .u32 (m : Nat)] 46))
        (by rw [hNl]; exact HON.out.alloc _) (by omega) (by exact World.cell?_alloc_at _ _ _ _ rfl) (by omega) (digs_take (digs_drop HI.out.digs _) _) (by omega) HYS.out
        (by
          rcases HY.out with h | ⟨b, off, h1, h2, h3⟩
          · exact .inl h
          · refine .inr ⟨b, off, h1, by omega, fun i hi => ?_⟩
            rw [((HB.out.mono (Nat.le_refl _)).alloc (by have := HB.out.size; omega) _).cell (by simpa using h2)]
            exact h3 i hi) (by omega) (by omega)
      have HAL := Lib.hid hal
      have HNL := Lib.hid hNl
      clear hal hNl
      go_wp2_with fail
      refine HAL.out.mono ?_
      rintro e w2 ⟨rfl, hg2, ho2⟩
      rw [HNL.out] at ho2
      have hN2 : (N.take k ++ (alongF (mulF m) ((N.drop k).take ys.length) ys 0).1 ++ N.drop (k + ys.length)).length = l.length + ys.length := by
        have := HST.out.len
        rw [List.length_set] at this
        exact this
      have HST2 := HST
      unfold Hid at HST2
      generalize alongF (mulF m) ((N.drop k).take ys.length) ys 0 = q at *
      generalize N.take k ++ q.1 ++ N.drop (k + ys.length) = N2 at *
      have hc2 : w2.cell? ⟨w.heap.size, k + ys.length, none⟩ = some (.int .u32 (gd N2 (k + ys.length) : Nat)) := own_cell ho2 hN2 _ (by omega)
      have hf2 : w2.frozen? ⟨w.heap.size, k + ys.length, none⟩ = false := own_free ho2 hN2 _
      have hs2 := own_store ho2 hN2 (k + ys.length) q.2
      have HS2 := Lib.hid hs2
      have HG2 := Lib.hid hg2
      have HI2 := Lib.hid HST2
      have HLL := Lib.hid hN2
      clear hs2 hg2 HST2 hN2 HST ho2 HAL
      go_wp2
      go_roundw
      case rel =>
        refine ⟨k + 1, N2.set (k + ys.length) q.2, by omega, by go_num, HI2.out, ?_, own_down HS2.out.1 (Nat.le_refl _)⟩
        have hsz := HB.out.size
        exact ((HB.out.alloc (by omega) _).grown HG2.out (by simp; omega) (by simp)).setCell (by simp) _
      case measure => simp [intOf]; omega
    · obtain rfl : k = l.length := by omega
      have hval : nv 4294967296 N = nv 4294967296 l * nv 4294967296 ys := by have := HI.out.worth; rwa [List.take_length] at this
      have hNl : N.length = l.length + ys.length := HI.out.len
      have hON := HON.out
      have hslN : Sl wr .u32 (some ⟨w.heap.size, 0, none⟩) N := .inr ⟨w.heap.size, 0, rfl, fun i hi => by rw [Nat.zero_add]; exact own_cell hON hNl i (by omega)⟩
      have hr := right_any (some ⟨w.heap.size, 0, none⟩) N (l.length + ys.length) wr hslN (by omega) (by omega) (by simp)
      rw [hNl] at hr
      have hv2 : wr.heap[nb]? = some (.cells #[.slice p0 l.length c0] 54 (0, 0)) := by rw [HB.out.block nb hnb]; exact HV.out
      have hc2 := cell_of_one hv2
      have hf2 := free_of_one hv2
      have HR := Lib.hid hr
      have HV2 := Lib.hid hv2
      have HVAL := Lib.hid hval
      have HNL := Lib.hid hNl
      have htl := tlen_le N
      have HD2 := Lib.hid HI.out.digs
      have HNV := Lib.hid (nv_tlen 4294967296 N)
      have HRT := Lib.hid (right_take_tlen N)
      clear hr hv2 hval hNl hslN hON
      go_wp2_with fail
      refine HR.out.mono ?_
      rintro e w' ⟨rfl, rfl⟩
      have HOT := own_take HON.out (tlen N) htl
      have htl2 : tlen N ≤ l.length + ys.length := by rw [← HNL.out]; exact htl
      generalize tlen N = t at *
      have HOT2 := Lib.hid HOT
      clear HOT
      go_wp2
      go_end0
      refine ⟨rfl, ?_, N.take t, ⟨_, one_setCell HV2.out, ownsRow_setCell_other (own_down HOT2.out (by omega)) (by simp [Value.ownBlock]; omega) _, digs_take HD2.out _⟩, HRT.out, by rw [HNV.out, HVAL.out], by rw [List.length_take]; omega⟩
      exact (HB.out.mono (by omega)).setCell (by simpa using hBn) _
end Go.Proofs.YtcahnkocfbcchaaGreatDoor


namespace Go.Proofs.YtcahnkocfbcchaaGreatDoor
open Go.RowKit Tnd

set_option maxRecDepth 100000 in
theorem minus_any (nb B : Nat) (l ys : List Nat) (p : Option Addr) (cy : Nat) (w : World)
    (hn : Num w nb B l) (hBn : B ≤ nb) (hy : Old w B p ys) (hys : Digs 4294967296 ys) (hle : nv 4294967296 ys ≤ nv 4294967296 l) (hlen : ys.length ≤ l.length)
    (hl : l.length ≤ 100000000000) :
    Calls Tryz.prog 32 #[.pointer (some ⟨nb, 0, none⟩), .slice p ys.length cy] w fun e w' =>
      e = .returned (.tuple #[]) ∧ Below B w w' ∧ ∃ l', Num w' nb B l' ∧ nv 4294967296 l' = nv 4294967296 l - nv 4294967296 ys ∧ l'.length = l.length := by
  obtain ⟨s, hv, hown, hdig⟩ := hn
  obtain ⟨p1, c1, rfl⟩ : ∃ p1 c1, s = .slice p1 l.length c1 := by
    obtain ⟨p1, c1, hs1, _⟩ := own_form hown
    exact ⟨p1, c1, hs1⟩
  have hal := along_own 66 sub_enters subF (fun c => c ≤ 1) sub_step (by omega) B p1 c1 l p ys cy w hown hdig hy hys (by omega) (by omega)
  have hd := subF_diff l ys hlen hdig hys hle
  have hc := cell_of_one hv
  have HV := Lib.hid hv
  have HO := Lib.hid hown
  have HNE := Lib.hid (own_ne hown hv (by decide))
  have HAL := Lib.hid hal
  have HD := Lib.hid hd
  clear hv hown hal hd hy hys hdig
  go_enter Tryz.func32, Tryz.ntmps32
  go_wp2_with fail
  refine HAL.out.mono ?_
  rintro e w2 ⟨cr, hcr, rfl, hg2, ho2⟩
  have HG2 := Lib.hid hg2
  have HO2 := Lib.hid ho2
  clear hcr hg2 ho2
  go_wp2
  go_end0
  refine ⟨rfl, ⟨HG2.out.os, HG2.out.tape, HG2.out.output, HG2.out.size, fun k hk => HG2.out.block k (by have := lt_of_block HV.out; omega) (fun e => by have := (HO.out.lt k e.symm).1; omega)⟩, _, ⟨_, ?_, HO2.out, HD.out.2⟩, HD.out.1, alongF_length _ _ _ _⟩
  rw [HG2.out.block nb (lt_of_block HV.out) (fun e => HNE.out e.symm)]
  exact HV.out

theorem own_lit (w : World) (B : Nat) (l : List Nat) (b : Nat) (hb : b = w.heap.size) (hB : B ≤ b) (hl : l.length ≤ 1000) :
    Own (w.alloc (.cells (l.map fun d => Value.int .u32 (d : Nat)).toArray 46)) B 46 .u32 (.slice (some ⟨b, 0, none⟩) l.length l.length) l := by
  have h := World.ownsRow_lit (base := B) (e := 46) (size := 1) w (l.map fun d => Value.int .u32 (d : Nat)).toArray l.length (by omega) (by simp only [maxLen]; omega) (by simp)
  subst hb
  unfold Own
  simpa using h

theorem one_any (w : World) :
    Calls Tryz.prog 50 #[] w fun e w' => ∃ p c, e = .returned (.agg #[.slice p 1 c]) ∧ Own w' w.heap.size 46 .u32 (.slice p 1 c) [1] ∧ Below w.heap.size w w' := by
  go_enter Tryz.func50, Tryz.ntmps50
  go_wp2
  refine bodyPost_ret (v := .agg #[.slice (some ⟨w.heap.size + 1, 0, none⟩) 1 1]) (by simp [results, Tryz.results50, go_sem]) rfl ?_
  exact ⟨_, _, rfl, own_lit _ w.heap.size [1] (w.heap.size + 1) (by simp) (by omega) (by simp), ((Below.refl _ _).alloc (Nat.le_refl _) _).alloc (by simp) _⟩

theorem of_any (n : Nat) (w : World) (hn : n < 18446744073709551616) :
    Calls Tryz.prog 18 #[.int .u64 (n : Nat)] w fun e w' => ∃ v, e = .returned v ∧ FNat w' w.heap.size v n ∧ Below w.heap.size w w' := by
  have hO : Own ((w.alloc (.cells #[.slice none 0 0] 24)).alloc (.cells #[.int .u32 ((n : Int) % 4294967296), .int .u32 ((n : Int) / 4294967296)] 46)) w.heap.size 46 .u32 (.slice (some ⟨w.heap.size + 1, 0, none⟩) 2 2) [n % 4294967296, n / 4294967296] := by
    have h := own_lit (w.alloc (.cells #[.slice none 0 0] 24)) w.heap.size [n % 4294967296, n / 4294967296] (w.heap.size + 1) (by simp) (by omega) (by simp)
    have e1 : ((n % 4294967296 : Nat) : Int) = (n : Int) % 4294967296 := by omega
    have e2 : ((n / 4294967296 : Nat) : Int) = (n : Int) / 4294967296 := by omega
    simp only [List.map_cons, List.map_nil, e1, e2] at h
    exact h
  have hd : Digs 4294967296 [n % 4294967296, n / 4294967296] := by
    intro d hd
    simp only [List.mem_cons, List.not_mem_nil, or_false] at hd
    omega
  have hnat := nat_any w.heap.size _ _ _ hO hd (by simp; omega) (by simp)
  have hv : nv 4294967296 [n % 4294967296, n / 4294967296] = n := by simp only [nv]; omega
  rw [hv] at hnat
  have HN := Lib.hid hnat
  clear hO hd hnat hv
  go_enter Tryz.func18, Tryz.ntmps18
  go_wp2_with fail
  refine HN.out.mono ?_
  rintro e w' ⟨v, rfl, hf, hb⟩
  obtain ⟨rp, rc, rl, hv, hrest⟩ := hf
  have hR : w'.heap[w.heap.size]? = some (.cells #[.slice none 0 0] 24 (0, 0)) := by
    rw [hb.block w.heap.size (by simp; omega), Below.heap_alloc _ _ _ (by simp)]
    exact heap_alloc_new w _
  have hc := cell_of_one hR
  have hf := free_of_one hR
  have HB := Lib.hid hb
  have HR := Lib.hid hR
  have HF : Hid (FNat w' w.heap.size v n) := ⟨rp, rc, rl, hv, hrest⟩
  clear hrest hb hR
  subst hv
  go_wp2
  refine bodyPost_ret (v := .agg #[.slice rp rl.length rc]) (by simp [results, Tryz.results18, go_sem, hc]) rfl ?_
  refine ⟨_, rfl, HF.out.setCell HR.out (by decide) _, ?_⟩
  exact ((((Below.refl _ _).alloc (Nat.le_refl _) _).alloc (by simp) _).trans (HB.out.mono (by simp; omega))).setCell (by simp) _
end Go.Proofs.YtcahnkocfbcchaaGreatDoor

