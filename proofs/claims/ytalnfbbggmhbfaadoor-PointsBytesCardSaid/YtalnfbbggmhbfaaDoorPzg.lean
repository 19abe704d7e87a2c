/- The walk of the document's Of. -/
import Derived.Test.YtalnfbbggmhbfaaDoorPzf
import Derived.Test.YtalnfbbggmhbfaaDoorPm
namespace Go.Proofs.YtalnfbbggmhbfaaDoor
open Go.RowKit Tnd

theorem con_le {b : UInt8} {t : List UInt8} : con (b :: t) ≤ max (lng b.toNat) 1 := by
  rcases hp : pt (b :: t) with ⟨_ | c, u⟩
  · have := con_none hp; omega
  · have := con_some hp; omega
theorem begins_cut (s : ByteArray) (u : List UInt8) (at_ k : Nat) (w : World) (hsz : s.size ≤ 65536) (hu : s.data.toList.drop at_ = u) (hk : k ≤ u.length) :
    Calls Tryd.prog 15 #[.string (s.extract at_ (at_ + k))] w fun e w' => e = .returned (.bool (decide (k ≤ con u))) ∧ Below w.heap.size w w' := by
  have hd : (s.extract at_ (at_ + k)).data.toList = u.take k := by
    rw [Lib.extract_data, hu, show at_ + k - at_ = k by omega]
  have h := begins_any (s.extract at_ (at_ + k)) w (by rw [ByteArray.size_extract]; omega)
  rw [hd] at h
  have e : (pt (u.take k)).2.isEmpty = decide (k ≤ con u) := by
    rw [Bool.eq_iff_iff, List.isEmpty_iff, pt_take u k hk, decide_eq_true_iff]
  rw [e] at h
  exact h

set_option maxHeartbeats 3200000 in
set_option maxRecDepth 100000 in
theorem rof_any (s : ByteArray) (w : World) (hs : s.size ≤ 9223372036854775807) :
    Calls Tryd.prog 5 #[.string s] w (OfPost w.heap.size (ofR s.data.toList) w) := by
  obtain ⟨i0, hinf, hz0, hz1, hz2⟩ := info_parts info_int
  have hsl : s.data.toList.length = s.size := by simp
  have HSL := Lib.hid hsl
  have hsI : (s.size : Int) ≤ 9223372036854775807 := by omega
  clear hsl
  by_cases hbig : 65536 < s.size
  · have hbI : 65536 < (s.size : Int) := by omega
    go_enter Tryd.func5, Tryd.ntmps5
    go_wp2
    go_ret3
    exact ofPost_mk (l := []) (by rw [ofR_long (by rw [HSL.out]; exact hbig)]; rfl) rfl (by omega) (by omega) (own_nil _ _ _ _) (Below.refl _ _)
  · have hbI : (s.size : Int) ≤ 65536 := by omega
    have HBIG2 := Lib.hid (show ¬ 65536 < s.data.toList.length by rw [HSL.out]; exact hbig)
    have HS6 := Lib.hid (show s.size ≤ 65536 by omega)
    clear hbig hs hsI
    go_enter Tryd.func5, Tryd.ntmps5
    go_wp2
    go_loopw [5, 6] (fun ov av wr => ∃ (a : Nat) (l : List Nat) (q : Option Addr) (cq : Nat), a ≤ s.size ∧ av = .int .i64 (a : Nat) ∧ ov = .slice q l.length cq ∧ Hid (ofm s.data.toList = (l ++ (ofm (s.data.toList.drop a)).1, (ofm (s.data.toList.drop a)).2)) ∧ Hid (l.length ≤ 65536 ∧ l.length ≤ a) ∧ Hid (Own wr w.heap.size 3 .i64 (.slice q l.length cq) l) ∧ Hid (Below w.heap.size w wr)) (fun _ av _ => s.size - (intOf av).toNat)
    case atStart => exact ⟨0, [], none, 0, Nat.zero_le _, rfl, rfl, rfl, ⟨Nat.zero_le _, Nat.zero_le _⟩, own_nil _ _ _ _, Below.refl _ _⟩
    case round =>
      obtain ⟨a, l, q, cq, ha, rfl, rfl, HO, HLL, HOW, HB⟩ := hrel
      rename World => wr
      by_cases has : a < s.size
      · obtain ⟨b, t, hu⟩ : ∃ b t, s.data.toList.drop a = b :: t := by
          rcases h : s.data.toList.drop a with _ | ⟨b, t⟩
          · have := congrArg List.length h
            rw [List.length_drop, HSL.out] at this
            simp at this; omega
          · exact ⟨b, t, rfl⟩
        have hul : (b :: t).length = s.size - a := by rw [← hu, List.length_drop, HSL.out]
        have hsa : s[a] = b := by
          have hl : a < s.data.toList.length := by rw [HSL.out]; exact has
          have h1 : s.data.toList[a]? = some b := by
            have h2 : (s.data.toList.drop a)[0]? = some b := by rw [hu]; rfl
            rw [List.getElem?_drop] at h2
            exact h2
          rw [List.getElem?_eq_getElem hl] at h1
          have h9 : s.data[a]'(by simpa using hl) = b := by simpa using h1
          exact h9
        have HU := Lib.hid hu
        have HUL := Lib.hid hul
        have HSA := Lib.hid hsa
        have hasI : (a : Int) < s.size := by omega
        have HLN := Lib.hid (long_any b.toNat wr)
        obtain ⟨L, hL⟩ : ∃ L, L = lng b.toNat := ⟨_, rfl⟩
        rw [← hL] at HLN
        have hL4 := lng_le b.toNat
        have hcl := con_le (b := b) (t := t)
        rw [← hL] at hcl hL4
        obtain ⟨nn, hnn⟩ : ∃ nn, nn = max L 1 := ⟨_, rfl⟩
        rw [← hnn] at hcl
        have hn4 : nn ≤ 4 := by omega
        have HCL := Lib.hid hcl
        obtain ⟨C, hC⟩ : ∃ C, C = con (b :: t) := ⟨_, rfl⟩
        have hC4 : C ≤ s.size - a := by rw [hC, ← hul]; unfold con; omega
        have HC := Lib.hid hC
        have HC4 := Lib.hid hC4
        have HL := Lib.hid hL
        have HNN := Lib.hid hnn
        have HN4 := Lib.hid hn4
        clear hu hul hsa hL hcl hL4 hC hC4 hn4
        have HB' := Lib.hid (show L = 0 ∨ L = 1 ∨ 1 < L by omega)
        rcases (show (nn = 1 ∧ L = 0) ∨ (nn = 1 ∧ L = 1) ∨ (nn = L ∧ 1 < L) by omega) with ⟨h7, h1L⟩ | ⟨h7, h1L⟩ | ⟨h7, h1L⟩
        rotate_left
        rotate_left
        have h1LI : (1 : Int) < L := by omega
        rotate_left
        all_goals
          rw [h7] at HCL HNN HN4
          try subst h1L
          clear hnn h7
          go_wp2_with fail
          rw [HSA.out]
          refine HLN.out.mono ?_
          rintro e w' ⟨rfl, rfl⟩
          go_wp2
          go_loopw [8] (fun kv wi => ∃ k : Nat, 1 ≤ k ∧ k ≤ C + 1 ∧ kv = .int .i64 (k : Nat) ∧ Hid (Below wr.heap.size wr wi)) (fun kv _ => C + 1 - (intOf kv).toNat)
          case atStart => exact ⟨1, by omega, by omega, rfl, Below.refl _ _⟩
          case round =>
            obtain ⟨k, hk1, hkC, rfl, HBI⟩ := hrel
            rename World => wi
            have hC4 : C ≤ 4 := by have h1 := HNN.out; have h2 := HC.out; have h3 := HCL.out; have h4 := HN4.out; omega
            have hk1I : (1 : Int) ≤ k := by omega
            have hk6 : (k : Int) ≤ 5 := by omega
            have haI : (a : Int) ≤ 65536 := by have := HS6.out; omega
            by_cases hk : k ≤ C
            · have hks : (a : Int) + k ≤ s.size := by have := HC4.out; omega
              have HBG := Lib.hid (begins_cut s (b :: t) a k wi HS6.out HU.out (by rw [HUL.out]; have := HC4.out; omega))
              rw [← HC.out, decide_eq_true hk] at HBG
              have HKC := Lib.hid hk
              first
                | (have hkn : (k : Int) ≤ 1 := by have h2 := HC.out; have h3 := HCL.out; omega)
                | (have hkn : (k : Int) ≤ L := by have h2 := HC.out; have h3 := HCL.out; omega)
              clear hk hC4
              go_wp2_with fail
              refine HBG.out.mono ?_
              rintro e w2 ⟨rfl, hb2⟩
              have HB2 := Lib.hid (bl_trans HBI.out hb2)
              clear hb2
              go_wp2
              go_roundw
              case rel => exact ⟨k + 1, by omega, by have := HKC.out; omega, by go_num, HB2⟩
              case measure => have := HKC.out; simp [intOf]; omega
            · have hkk : k = C + 1 := by omega
              have HKK := Lib.hid hkk
              rcases hp : pt (b :: t) with ⟨_ | c, u⟩
              · have hcn := con_none hp
                rw [← HC.out, ← HL.out] at hcn
                first
                  | (have hkn : (k : Int) ≤ 1 := by have h2 := HNN.out; omega)
                  | (have hkn : (k : Int) ≤ L := by have h2 := HNN.out; omega)
                have hul2 : u.length = s.size - (a + C) := by
                  have h1 := HC.out
                  have h2 := HUL.out
                  unfold con at h1
                  rw [hp] at h1
                  have h3 : u.length ≤ (b :: t).length := by
                    obtain ⟨p, e1, _⟩ := pt_none hp
                    rw [e1]; simp
                  have h4 : C = (b :: t).length - u.length := h1
                  omega
                have HRES : Hid (ofR s.data.toList = ([], a + C, 4)) := by
                  show ofR s.data.toList = ([], a + C, 4)
                  have e1 := HO.out
                  rw [HU.out, ofm_bad (by simp) hp, List.append_nil] at e1
                  rw [ofR_bad HBIG2.out e1, HSL.out, hul2]
                  have := HC4.out
                  simp only [Prod.mk.injEq, true_and, and_true]
                  omega
                clear hcn hul2 hp hC4
                by_cases hks : a + k ≤ s.size
                · have hksI : (a : Int) + k ≤ s.size := by omega
                  have HBG := Lib.hid (begins_cut s (b :: t) a k wi HS6.out HU.out (by rw [HUL.out]; omega))
                  rw [← HC.out, decide_eq_false (by omega)] at HBG
                  clear hk hkk hks
                  go_wp2_with fail
                  refine HBG.out.mono ?_
                  rintro e w2 ⟨rfl, hb2⟩
                  have HB2 := Lib.hid (bl_trans HBI.out hb2)
                  clear hb2
                  go_wp2
                  go_ret3
                  exact ofPost_mk (l := []) (a := (a : Int) + k - 1) (z := 4) (p := none) (c := 0) (n := 0) (by rw [HRES.out]; have := HKK.out; simp only [Prod.mk.injEq, true_and]; constructor <;> omega) rfl (by omega) (by decide) (own_nil _ _ _ _) (HB.out.trans (HB2.out.mono HB.out.size))
                · have hksI : (s.size : Int) < (a : Int) + k := by omega
                  clear hk hkk hks
                  go_wp2
                  all_goals
                    go_ret3
                    exact ofPost_mk (l := []) (a := (a : Int) + k - 1) (z := 4) (p := none) (c := 0) (n := 0) (by rw [HRES.out]; have := HKK.out; simp only [Prod.mk.injEq, true_and]; constructor <;> omega) rfl (by omega) (by decide) (own_nil _ _ _ _) (HB.out.trans (HBI.out.mono HB.out.size))
              · have hcs := con_some hp
                rw [← HC.out, ← HL.out] at hcs
                have hpl := pt_len hp
                have hC1 : 1 ≤ C := by
                  have h1 := HC.out
                  unfold con at h1
                  rw [hp] at h1
                  have h4 : C = (b :: t).length - u.length := h1
                  omega
                obtain ⟨hwc, henc⟩ := pt_some hp
                have hlc : (enc c).length = C := by
                  have h1 := HC.out
                  unfold con at h1
                  rw [hp] at h1
                  have h4 : C = (b :: t).length - u.length := h1
                  rw [henc, List.length_append] at h4
                  omega
                have hdr : s.data.toList.drop (a + C) = u := by
                  rw [← List.drop_drop, HU.out, henc, ← hlc, List.drop_left]
                have htk : (s.extract a (a + C)).data.toList = enc c := by
                  rw [Lib.extract_data, HU.out, show a + C - a = C by omega, henc, ← hlc, List.take_left]
                have hfst : fst (enc c) = c := fst_enc hwc
                all_goals first | (exfalso; omega) | skip
                all_goals
                  obtain ⟨t2, ht2⟩ : ∃ t2, enc c = b :: t2 := by
                    rcases he : enc c with _ | ⟨x, t2⟩
                    · rw [he] at hlc; simp at hlc; omega
                    · rw [he, List.cons_append] at henc
                      simp only [List.cons.injEq] at henc
                      exact ⟨t2, by rw [henc.1]⟩
                  have hE := HL.out
                  have hlt2 : (enc c).length = t2.length + 1 := by rw [ht2]; rfl
                  have HFIRST : Hid (∀ W : World, Calls Tryd.prog 16 #[.string (s.extract a (a + C))] W fun e w' => ∃ ok : Bool, e = .returned (.tuple #[.int .i64 (c : Nat), .bool ok]) ∧ Below W.heap.size W w') := by
                    intro W
                    have h := first_any (s.extract a (a + C)) b t2 W (by rw [htk, ht2]) (by omega)
                    rw [← ht2, hfst] at h
                    exact h.mono fun _ _ h => ⟨_, h.1, h.2⟩
                  have HOF : Hid (ofm s.data.toList = ((l ++ [c]) ++ (ofm (s.data.toList.drop (a + C))).1, (ofm (s.data.toList.drop (a + C))).2)) := by
                    show ofm s.data.toList = ((l ++ [c]) ++ (ofm (s.data.toList.drop (a + C))).1, (ofm (s.data.toList.drop (a + C))).2)
                    have e1 := HO.out
                    rw [HU.out, ofm_ok hp] at e1
                    rw [e1, hdr, List.append_assoc]; rfl
                  have haC : a + C ≤ s.size := by have := HC4.out; omega
                  have HHC := Lib.hid (show 1 ≤ C ∧ a + C ≤ s.size from ⟨hC1, haC⟩)
                  have hOW := HOW.out
                  have hOWi := own_below hOW HBI.out
                  unfold Own at hOWi
                  have HOWI := Lib.hid hOWi
                  have HBWI := Lib.hid (HB.out.trans (HBI.out.mono HB.out.size))
                  have HBSZ := Lib.hid (show w.heap.size ≤ wi.heap.size by have h1 := HB.out.size; have h2 := HBI.out.size; omega)
                  rw [hcs] at HFIRST HOF HHC
                  try have hkI : (1 : Int) < k := by omega
                  try have hkL : (L : Int) < k := by omega
                  first
                    | (have haCI : (a : Int) + 1 ≤ s.size := by omega)
                    | skip
                  try have haCL : (a : Int) + L ≤ s.size := by omega
                  clear hp hpl henc hlc hdr htk hfst ht2 hlt2 hwc hE hOW hOWi hC4 hcs hC1 hk hkk hkC haC
                  go_wp2_with fail
                  refine (HFIRST.out _).mono ?_
                  rintro e w2 ⟨ok, rfl, hb2⟩
                  have hO2 := own_below (show Own wi w.heap.size 3 .i64 (.slice q l.length cq) l from HOWI.out) hb2
                  unfold Own at hO2
                  have HO2 := Lib.hid hO2
                  have HB2 := Lib.hid (HBWI.out.trans (hb2.mono HBSZ.out))
                  have HBS2 := Lib.hid (show w.heap.size ≤ w2.heap.size by have h1 := HBSZ.out; have h2 := hb2.size; omega)
                  clear hO2 hb2
                  go_wp2_with (at_builtin; refine wpList_append_own _ rfl _ _ 24 rfl w.heap.size 3 i0 (.int .i64 0) 1 8 Tryd.underlying24 hinf hz0 hz1 hz2 rfl (by decide) (.slice q l.length cq) l.length _ rfl (HO2.out.alloc _) ⟨w2.heap.size, 0, none⟩ 1 1 [.int .i64 ((c : Nat) : Int)] rfl rfl ?c1 ?c2 ?c3 ?c4 ?c5 ?_)
                  case c1 => exact cell_one_new _ _ _
                  case c2 => simp [Value.oneCell']
                  case c3 => have := HLL.out; simp only [maxLen]; omega
                  case c4 => have := HLL.out; omega
                  case c5 => have := HBS2.out; simp; omega
                  intro v5 w5 hown5 hgrow5 _
                  have hO5 := own_appended rfl hown5
                  have hb5 : Below w.heap.size w w5 := (HB2.out.alloc HBS2.out _).grown hgrow5 (by have := HBS2.out; simp; omega) (fun k hk => (HO2.out.lt k hk).1)
                  obtain ⟨p', c5, hs', _⟩ := own_form hO5
                  subst hs'
                  have HO5 := Lib.hid hO5
                  have HB5 := Lib.hid hb5
                  have HLE5 := Lib.hid (show (l ++ [c]).length = l.length + 1 by rw [List.length_append]; rfl)
                  clear hown5 hgrow5 hO5 hb5
                  obtain ⟨l5, hl5⟩ : ∃ l5, l5 = l ++ [c] := ⟨_, rfl⟩
                  rw [← hl5] at HO5 HLE5 HOF ⊢
                  clear hl5
                  go_wp2
                  go_roundw
                  case rel =>
                    have h1 := HHC.out
                    have h2 := HLL.out
                    have h3 := HLE5.out
                    have h4 := HS6.out
                    first
                      | exact ⟨a + 1, l5, p', c5, by omega, by go_num, rfl, HOF, ⟨by omega, by omega⟩, HO5, HB5⟩
                      | exact ⟨a + L, l5, p', c5, by omega, by go_num, rfl, HOF, ⟨by omega, by omega⟩, HO5, HB5⟩
                  case measure =>
                    have h1 := HHC.out
                    simp [intOf]; omega
      · have hasI : (s.size : Int) ≤ a := by omega
        have hae : a = s.size := by omega
        have e1 := HO.out
        rw [hae, List.drop_eq_nil_of_le (by rw [HSL.out]; exact Nat.le_refl _), ofm_nil, List.append_nil] at e1
        have E1 := Lib.hid e1
        clear e1 hae
        go_wp2
        go_ret3
        exact ofPost_mk (l := l) (a := 0) (z := 0) (p := q) (c := cq) (n := l.length) (by rw [ofR_ok HBIG2.out E1.out]; rfl) rfl (Int.le_refl _) (Int.le_refl _) HOW.out HB.out
end Go.Proofs.YtalnfbbggmhbfaaDoor
