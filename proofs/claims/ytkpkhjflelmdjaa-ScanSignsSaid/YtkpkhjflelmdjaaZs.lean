/- The walk of the law ScanSigns. -/
import Derived.Test.YtkpkhjflelmdjaaZr
import Derived.Deep.RegionHeld3
namespace Go.Proofs.Ytkpkhjflelmdjaa
open Go.RowKit Tnd

/-- a step of a region, at one operation and one world. -/
theorem step_world (w : World) (n : Nat) {ops : Array Oper} {o : Oper} {a : Act} {K : Act → World → Prop} {Q : Exit → Act → World → Prop} {E : Prop} (hd : o.dst = some n) (h : if Region.wanted o (yielded ops a.tmps) = true then Oper.wp Try.prog o a w K Q else E) : if Region.wanted o (yielded ops a.tmps) = true then Oper.wp Try.prog o a w K Q else E := h

theorem slice_to (q : Option Addr) (l : List Int) (c k n : Nat) (w : World) (hs : SlI w q l) (hn : n = l.length) (hk : k ≤ n) (hc : n ≤ c) (hm : c ≤ 9223372036854775807) (hq : q = none → c = 0) :
    (∀ x : World, (Instr.sliceAt 22 (.slice q n c) none (some (.int .i64 (k : Nat))) none).run Try.prog x = .ok (.slice q (l.take k).length c) x) ∧ SlI w q (l.take k) := by
  have hl : (l.take k).length = k := by rw [List.length_take]; omega
  rw [hl]
  have hkI : (k : Int) ≤ n := by omega
  have hcI : (n : Int) ≤ c := by omega
  have hmI : (c : Int) ≤ 9223372036854775807 := by omega
  have hkcI : (k : Int) ≤ c := by omega
  constructor
  · intro x
    clear hs hn
    cases q with
    | none =>
      have h0 := hq rfl
      subst h0
      have : n = 0 := by omega
      subst this
      have : k = 0 := by omega
      subst this
      go_simp
    | some a =>
      clear hq
      go_simp
  · rcases hs with h | ⟨b, off, h, hcell⟩
    · left; rw [h]; simp
    · right
      refine ⟨b, off, h, fun i hi => ?_⟩
      rw [hl] at hi
      have e : gi (l.take k) i = gi l i := by unfold gi; rw [List.getD_eq_getElem?_getD, List.getD_eq_getElem?_getD, List.getElem?_take, if_pos hi]
      rw [e]; exact hcell i (by omega)

set_option maxHeartbeats 6400000 in
set_option maxRecDepth 100000 in
theorem signs_true (w : World) : Calls Try.prog 5 #[] w (RT w) := by
  go_enter Try.func5, Try.ntmps5
  go_wp2
  go_loopw [2] (fun iv wr => ∃ z : Int, -1 ≤ z ∧ z ≤ 300 ∧ iv = .int .i64 z ∧ Hid (SlA wr (some ⟨w.heap.size, 0, none⟩) allA ∧ Below w.heap.size w wr)) (fun iv _ => (300 - intOf iv).toNat)
  case atStart =>
    refine ⟨-1, by omega, by omega, rfl, sla_block allA (MapKept.heap_alloc w _).1 rfl, bl_alloc w _⟩
  case round =>
    obtain ⟨z, hz1, hz2, rfl, HS⟩ := hrel
    rename World => wr
    by_cases hz : z < 300
    · have HZ := Lib.hid hz1
      go_wp2_with fail
      refine (reads_new [z] allA rfl rfl ok_all rfl (by simp) (by simp) HS.out.1 (by decide) (by decide)).mono ?_
      rintro e wr0 ⟨rfl, hb⟩
      have HS : Hid (SlA wr0 (some ⟨w.heap.size, 0, none⟩) allA ∧ Below w.heap.size w wr0) := ⟨HS.out.1.below hb, bl_trans HS.out.2 hb⟩
      clear hb
      go_wp2_with fail
      refine (reads_new [99, z, z] allA rfl rfl ok_all rfl (by simp) (by simp) HS.out.1 (by decide) (by decide)).mono ?_
      rintro e wr1 ⟨rfl, hb⟩
      have HS : Hid (SlA wr1 (some ⟨w.heap.size, 0, none⟩) allA ∧ Below w.heap.size w wr1) := ⟨HS.out.1.below hb, bl_trans HS.out.2 hb⟩
      clear hb
      go_wp2_with fail
      refine (reads_new [48, z] allA rfl rfl ok_all rfl (by simp) (by simp) HS.out.1 (by decide) (by decide)).mono ?_
      rintro e wr2 ⟨rfl, hb⟩
      have HS : Hid (SlA wr2 (some ⟨w.heap.size, 0, none⟩) allA ∧ Below w.heap.size w wr2) := ⟨HS.out.1.below hb, bl_trans HS.out.2 hb⟩
      clear hb
      go_wp2_with fail
      refine (reads_new [120, z, 97] allA rfl rfl ok_all rfl (by simp) (by simp) HS.out.1 (by decide) (by decide)).mono ?_
      rintro e wr3 ⟨rfl, hb⟩
      have HS : Hid (SlA wr3 (some ⟨w.heap.size, 0, none⟩) allA ∧ Below w.heap.size w wr3) := ⟨HS.out.1.below hb, bl_trans HS.out.2 hb⟩
      clear hb
      go_wp2_with fail
      refine (reads_new [120, 70, z] allA rfl rfl ok_all rfl (by simp) (by simp) HS.out.1 (by decide) (by decide)).mono ?_
      rintro e wr4 ⟨rfl, hb⟩
      have HS : Hid (SlA wr4 (some ⟨w.heap.size, 0, none⟩) allA ∧ Below w.heap.size w wr4) := ⟨HS.out.1.below hb, bl_trans HS.out.2 hb⟩
      clear hb
      go_wp2_with fail
      refine (reads_new [117, 123, z, 125] allA rfl rfl ok_all rfl (by simp) (by simp) HS.out.1 (by decide) (by decide)).mono ?_
      rintro e wr5 ⟨rfl, hb⟩
      have HS : Hid (SlA wr5 (some ⟨w.heap.size, 0, none⟩) allA ∧ Below w.heap.size w wr5) := ⟨HS.out.1.below hb, bl_trans HS.out.2 hb⟩
      clear hb
      go_wp2_with fail
      refine (reads_new [117, 48, 48, z, 57, 120] allA rfl rfl ok_all rfl (by simp) (by simp) HS.out.1 (by decide) (by decide)).mono ?_
      rintro e wr6 ⟨rfl, hb⟩
      have HS : Hid (SlA wr6 (some ⟨w.heap.size, 0, none⟩) allA ∧ Below w.heap.size w wr6) := ⟨HS.out.1.below hb, bl_trans HS.out.2 hb⟩
      clear hb
      go_wp2_with fail
      refine (reads_new2 [97, z, 62] twoA rfl rfl ok_two rfl rfl (by simp) (by simp) (by decide) (by decide)).mono ?_
      rintro e wr7 ⟨rfl, hb⟩
      have HS : Hid (SlA wr7 (some ⟨w.heap.size, 0, none⟩) allA ∧ Below w.heap.size w wr7) := ⟨HS.out.1.below hb, bl_trans HS.out.2 hb⟩
      clear hb
      go_wp2_with fail
      refine (reads_new2 [z, 98, 62] twoA rfl rfl ok_two rfl rfl (by simp) (by simp) (by decide) (by decide)).mono ?_
      rintro e wr8 ⟨rfl, hb⟩
      have HS : Hid (SlA wr8 (some ⟨w.heap.size, 0, none⟩) allA ∧ Below w.heap.size w wr8) := ⟨HS.out.1.below hb, bl_trans HS.out.2 hb⟩
      clear hb
      go_wp2
      go_roundw
      case rel => exact ⟨z + 1, by have := HZ.out; omega, by omega, by go_num, HS⟩
      case measure => simp only [intOf]; omega
    · have HB1 := HS
      clear HS
      go_wp2
      go_loopw [4] (fun iv wx => ∃ i : Nat, i ≤ 36 ∧ iv = .int .i64 (i : Nat) ∧ Hid (KS w wr.heap.size wx)) (fun iv _ => 36 - (intOf iv).toNat)
      case atStart =>
        exact ⟨0, by omega, rfl, HB1.out.1.below (bl_alloc wr _), bl_trans HB1.out.2 (bl_alloc wr _), strs_cells (MapKept.heap_alloc wr _).1 rfl⟩
      case round =>
        clear HB1
        obtain ⟨i, hi, rfl, HS⟩ := hrel
        rename World => wx
        by_cases hi36 : i < 36
        · have hiI : (i : Int) < 36 := by omega
          have hc := HS.out.2.2 i hi36
          have HSZ := Lib.hid (strs_size i hi36)
          generalize gs i = s at hc HSZ
          have HSG := Lib.hid (signs_law s wx (by have := HSZ.out; omega))
          have HI := Lib.hid hi36
          clear hi36
          go_wp2_with fail
          refine HSG.out.mono ?_
          rintro e w5 ⟨q, c, rfl, ho, hb⟩
          have HLN : Hid ((sg s.data.toList).length ≤ 40) := by have := HSZ.out; show _ ≤ _; simp [sg]; omega
          generalize sg s.data.toList = l at *
          have HO5 := Lib.hid ho
          have HK5 : Hid (KS w wr.heap.size w5) := HS.out.below hb
          obtain ⟨n, hn⟩ : ∃ n, n = l.length := ⟨_, rfl⟩
          have HN := Lib.hid hn
          have hnI : (n : Int) ≤ 40 := by have := HLN.out; omega
          rw [← hn]
          clear hn ho hb HS HSG hc
          go_wp2
          go_loopw [6] (fun kv wy => ∃ k : Nat, k ≤ n + 1 ∧ kv = .int .i64 (k : Nat) ∧ Hid (KS w wr.heap.size wy ∧ Below w5.heap.size w5 wy)) (fun kv _ => n + 1 - (intOf kv).toNat)
          case atStart => exact ⟨0, by omega, rfl, HK5.out, Below.refl _ _⟩
          case round =>
            obtain ⟨k, hk, rfl, HT⟩ := hrel
            rename World => wy
            by_cases hkn : k ≤ n
            · have hkI : (k : Int) ≤ n := by omega
              have HKN := Lib.hid hkn
              clear hkn hk
              go_wp2
              obtain ⟨q0, c0, e0, hlc, hcm, _⟩ := ownI_form HO5.out
              obtain ⟨rfl, rfl⟩ : q = q0 ∧ c = c0 := by simp only [Value.slice.injEq, true_and] at e0; exact e0
              clear e0
              have hsl : SlI wy q l := (ownI_row HO5.out).1.below HT.out.2
              have hq : q = none → c = 0 := (ownI_row HO5.out).2
              obtain ⟨hst, hs7⟩ := slice_to q l c k n wy hsl HN.out HKN.out (by rw [HN.out]; exact hlc) hcm hq
              obtain ⟨q8, c8, hsf, h8n, hs8⟩ := slice_from q l c k n wy hsl HN.out HKN.out (by rw [HN.out]; exact hlc) hcm hq
              have HALL : Hid (∀ W, Below wy.heap.size wy W → SlA W (some ⟨w.heap.size, 0, none⟩) allA) := fun W h => (HT.out.1.below h).1
              have HL7 : Hid ((l.take k).length ≤ 40 ∧ (l.take k).length ≤ c) := by have := HLN.out; refine ⟨?_, ?_⟩ <;> (rw [List.length_take]; omega)
              have HL8 : Hid ((l.drop k).length ≤ 40) := by have := HLN.out; show _ ≤ _; rw [List.length_drop]; omega
              generalize l.take k = L7 at *
              generalize l.drop k = L8 at *
              have HS7 : Hid (∀ W, Below wy.heap.size wy W → SlI W q L7) := fun W h => hs7.below h
              have HS8 : Hid (∀ W, Below wy.heap.size wy W → SlI W q8 L8) := fun W h => hs8.below h
              have HR1 : Hid (∀ W, Below wy.heap.size wy W → Calls Try.prog 3 #[.slice q L7.length c, .slice (some ⟨w.heap.size, 0, none⟩) 5 5] W (RT W)) := fun W h => reads_q L7 allA _ c 5 5 rfl rfl ok_all (hs7.below h) hq HL7.out.2 hcm (HALL.out W h) (by decide) (by decide)
              have HQ := Lib.hid hq
              have H8N := Lib.hid h8n
              obtain ⟨L9, hL9⟩ : ∃ L, L = L7 ++ [71] := ⟨_, rfl⟩
              have HL9 := Lib.hid hL9
              obtain ⟨LZ, hLZ⟩ : ∃ L, L = sg [122] := ⟨_, rfl⟩
              have HLZ : Hid (LZ.length ≤ 10) := by show _ ≤ _; rw [hLZ]; decide
              have HSG : Hid (∀ W, Calls Try.prog 20 #[.string ⟨#[122]⟩] W (fun e w' => ∃ q c, e = .returned (.slice q LZ.length c) ∧ OwnI w' W.heap.size (.slice q LZ.length c) LZ ∧ Below W.heap.size W w')) := fun W => by rw [hLZ]; exact signs_law ⟨#[122]⟩ W (by decide)
              obtain ⟨LD, hLD⟩ : ∃ L, L = LZ ++ L8 := ⟨_, rfl⟩
              have HLD := Lib.hid hLD
              clear hL9 hLZ hLD hs7 hs8 hq h8n hsl hlc hcm
              go_wp2
              go_region_held3 (fun _ => True) (exact trivial) (first
                | (go_at_call 3; (with_reducible refine (HR1.out _ (bl_drew _)).mono ?_); rintro e w1 ⟨rfl, hb1⟩; have HB1 : Hid (Below wy.heap.size wy w1) := bl_trans (bl_drew _) hb1; clear hb1)
                | ((with_reducible refine step_world (w1.alloc (.cells #[] 3)) 114 rfl ?_); refine step_join (w := w1.alloc (.cells #[] 3)) (M := L7) (by rfl) _ _ rfl (by rfl) (by rfl) (own_fresh w1 wy.heap.size HB1.out.size) (HS7.out _ (bl_trans HB1.out (bl_alloc _ _))) HQ.out (by have := HL7.out; simp only [List.length_nil]; omega) (bl_trans HB1.out (bl_alloc _ _)).size rfl ?_; intro q2 c2 w2 ho2 hg2; have HO2 := Lib.hid ho2; have HB2 : Hid (Below wy.heap.size wy w2) := bl_keep (bl_trans HB1.out (bl_alloc _ _)) (own_fresh w1 wy.heap.size HB1.out.size) hg2; clear ho2 hg2)
                | ((with_reducible refine step_world ((w1.alloc (.cells #[] 3)).alloc (.cells #[.int .i64 71] 3)) 114 rfl ?_); refine step_join (w := (w1.alloc (.cells #[] 3)).alloc (.cells #[.int .i64 71] 3)) (M := L7) (by rfl) _ _ rfl (by rfl) (by rfl) (ownI_below (own_fresh w1 wy.heap.size HB1.out.size) (bl_alloc _ _)) (HS7.out _ (bl_trans (bl_trans HB1.out (bl_alloc _ _)) (bl_alloc _ _))) HQ.out (by have := HL7.out; simp only [List.length_nil]; omega) (bl_trans (bl_trans HB1.out (bl_alloc _ _)) (bl_alloc _ _)).size rfl ?_; intro q2 c2 w2 ho2 hg2; have HO2 := Lib.hid ho2; have HB2 : Hid (Below wy.heap.size wy w2) := bl_keep (bl_trans (bl_trans HB1.out (bl_alloc _ _)) (bl_alloc _ _)) (ownI_below (own_fresh w1 wy.heap.size HB1.out.size) (bl_alloc _ _)) hg2; have HS71 : Hid (SlI w2 (some ⟨w1.heap.size + 1, 0, none⟩) [71]) := one_kept (g := w1.heap.size) [71] (heap_two w1 _ _).1 rfl hg2 (by omega); clear ho2 hg2)
                | ((with_reducible refine step_world ((w1.alloc (.cells #[.int .i64 71] 3)).alloc (.cells #[] 3)) 114 rfl ?_); refine step_join (w := (w1.alloc (.cells #[.int .i64 71] 3)).alloc (.cells #[] 3)) (M := L7) (by rfl) _ _ rfl (by rfl) (by rfl) (own_fresh1 w1 _ wy.heap.size HB1.out.size) (HS7.out _ (bl_trans (bl_trans HB1.out (bl_alloc _ _)) (bl_alloc _ _))) HQ.out (by have := HL7.out; simp only [List.length_nil]; omega) (bl_trans (bl_trans HB1.out (bl_alloc _ _)) (bl_alloc _ _)).size rfl ?_; intro q2 c2 w2 ho2 hg2; have HO2 := Lib.hid ho2; have HB2 : Hid (Below wy.heap.size wy w2) := bl_keep (bl_trans (bl_trans HB1.out (bl_alloc _ _)) (bl_alloc _ _)) (own_fresh1 w1 _ wy.heap.size HB1.out.size) hg2; have HS71 : Hid (SlI w2 (some ⟨w1.heap.size, 0, none⟩) [71]) := one_kept (g := w1.heap.size + 1) [71] (heap_two w1 _ _).2 rfl hg2 (by omega); clear ho2 hg2)
                | ((with_reducible refine step_world (w2.alloc (.cells #[.int .i64 71] 3)) 116 rfl ?_); refine step_join (w := w2.alloc (.cells #[.int .i64 71] 3)) (by rfl) _ _ rfl (by rfl) (by rfl) (ownI_below HO2.out (bl_alloc _ _)) (sli_block [71] (MapKept.heap_alloc w2 _).1 rfl) (fun h => by cases h) (by have := HL7.out; simp only [List.length_cons, List.length_nil]; omega) (bl_trans HB2.out (bl_alloc _ _)).size HL9.out ?_; intro q3 c3 w3 ho3 hg3; have HO3 := Lib.hid ho3; have HB3 : Hid (Below wy.heap.size wy w3) := bl_keep (bl_trans HB2.out (bl_alloc _ _)) (ownI_below HO2.out (bl_alloc _ _)) hg3; clear ho3 hg3)
                | ((with_reducible refine step_world (w2) 116 rfl ?_); refine step_join (w := w2) (by rfl) _ _ rfl (by rfl) (by rfl) HO2.out HS71.out (fun h => by cases h) (by have := HL7.out; simp only [List.length_cons, List.length_nil]; omega) HB2.out.size HL9.out ?_; intro q3 c3 w3 ho3 hg3; have HO3 := Lib.hid ho3; have HB3 : Hid (Below wy.heap.size wy w3) := bl_keep HB2.out HO2.out hg3; clear ho3 hg3)
                | (go_at_call 3; (with_reducible refine (reads_own (na := 5) (ca := 5) HO3.out rfl ok_all (HALL.out _ HB3.out) (by decide) (by decide)).mono ?_); rintro e w4 ⟨rfl, hb4⟩; have HB4 : Hid (Below wy.heap.size wy w4) := bl_trans HB3.out hb4; clear hb4 HO3)
                | (go_at_call 20; (with_reducible refine (HSG.out w4).mono ?_); rintro e w9 ⟨q9, c9, rfl, ho9, hb9⟩; have HO9 : Hid (OwnI w9 wy.heap.size (.slice q9 LZ.length c9) LZ) := ownI_down ho9 HB4.out.size; have HB9 : Hid (Below wy.heap.size wy w9) := bl_trans HB4.out hb9; clear ho9 hb9)
                | (go_at_call 20; (with_reducible refine (HSG.out (w4.alloc (.cells #[.int .i64 0, .string ⟨#[]⟩] 33))).mono ?_); rintro e w9 ⟨q9, c9, rfl, ho9, hb9⟩; have HO9 : Hid (OwnI w9 wy.heap.size (.slice q9 LZ.length c9) LZ) := ownI_down ho9 (bl_trans HB4.out (bl_alloc _ _)).size; have HB9 : Hid (Below wy.heap.size wy w9) := bl_trans (bl_trans HB4.out (bl_alloc _ _)) hb9; have HA9 : Hid (OwnA w9 wy.heap.size (.slice (some ⟨w4.heap.size, 0, none⟩) 1 1) oneA) := ownA_below (own_ask w4 wy.heap.size oneA _ 1 rfl rfl HB4.out.size (by decide)) hb9; clear ho9 hb9)
                | ((with_reducible refine step_world (w9) 126 rfl ?_); refine step_join (w := w9) (by rfl) _ _ rfl (by rfl) (by rfl) HO9.out (HS8.out _ HB9.out) H8N.out (by have := HL8.out; have := HLZ.out; omega) HB9.out.size HLD.out ?_; intro q6 c6 w6 ho6 hg6; have HO6 := Lib.hid ho6; have HB6 : Hid (Below wy.heap.size wy w6) := bl_keep HB9.out HO9.out hg6; have HA6 := Lib.hid (ownA_kept HA9.out HO9.out hg6); clear ho6 hg6)
                | ((with_reducible refine step_world (w9) 126 rfl ?_); refine step_join (w := w9) (by rfl) _ _ rfl (by rfl) (by rfl) HO9.out (HS8.out _ HB9.out) H8N.out (by have := HL8.out; have := HLZ.out; omega) HB9.out.size HLD.out ?_; intro q6 c6 w6 ho6 hg6; have HO6 := Lib.hid ho6; have HB6 : Hid (Below wy.heap.size wy w6) := bl_keep HB9.out HO9.out hg6; clear ho6 hg6)
                | ((with_reducible refine step_world (w9.alloc (.cells #[.int .i64 0, .string ⟨#[]⟩] 33)) 126 rfl ?_); refine step_join (w := w9.alloc (.cells #[.int .i64 0, .string ⟨#[]⟩] 33)) (by rfl) _ _ rfl (by rfl) (by rfl) (ownI_below HO9.out (bl_alloc _ _)) (HS8.out _ (bl_trans HB9.out (bl_alloc _ _))) H8N.out (by have := HL8.out; have := HLZ.out; omega) (bl_trans HB9.out (bl_alloc _ _)).size HLD.out ?_; intro q6 c6 w6 ho6 hg6; have HO6 := Lib.hid ho6; have HB6 : Hid (Below wy.heap.size wy w6) := bl_keep (bl_trans HB9.out (bl_alloc _ _)) (ownI_below HO9.out (bl_alloc _ _)) hg6; have HA6 := Lib.hid (ownA_kept (own_ask w9 wy.heap.size oneA _ 1 rfl rfl HB9.out.size (by decide)) (ownI_below HO9.out (bl_alloc _ _)) hg6); clear ho6 hg6)
                | ((with_reducible refine step_world (w6) 130 rfl ?_); refine step_joinA (w := w6) (A := allA) (M := sixA) (m := 6) (by rfl) _ _ rfl (n := 5) rfl (by rfl) (by rfl) HA6.out (HALL.out _ HB6.out) (by decide) HB6.out.size rfl rfl ?_; intro q7 c7 w7 ha7 hc7 hm7 hg7; have HA7 := Lib.hid ha7; have HC7 := Lib.hid (And.intro hc7 hm7); have HO7 := Lib.hid (ownI_kept_ask HO6.out HA6.out hg7); have HB7 : Hid (Below wy.heap.size wy w7) := bl_keepA HB6.out HA6.out hg7; clear ha7 hc7 hm7 hg7)
                | ((with_reducible refine step_world (w6.alloc (.cells #[.int .i64 0, .string ⟨#[]⟩] 33)) 130 rfl ?_); refine step_joinA (w := w6.alloc (.cells #[.int .i64 0, .string ⟨#[]⟩] 33)) (A := allA) (M := sixA) (m := 6) (by rfl) _ _ rfl (n := 5) rfl (by rfl) (by rfl) (own_ask w6 wy.heap.size oneA _ 1 rfl rfl HB6.out.size (by decide)) (HALL.out _ (bl_trans HB6.out (bl_alloc _ _))) (by decide) (bl_trans HB6.out (bl_alloc _ _)).size rfl rfl ?_; intro q7 c7 w7 ha7 hc7 hm7 hg7; have HA7 := Lib.hid ha7; have HC7 := Lib.hid (And.intro hc7 hm7); have HO7 := Lib.hid (ownI_kept_ask (ownI_below HO6.out (bl_alloc _ _)) (own_ask w6 wy.heap.size oneA _ 1 rfl rfl HB6.out.size (by decide)) hg7); have HB7 : Hid (Below wy.heap.size wy w7) := bl_keepA (bl_trans HB6.out (bl_alloc _ _)) (own_ask w6 wy.heap.size oneA _ 1 rfl rfl HB6.out.size (by decide)) hg7; clear ha7 hc7 hm7 hg7)
                | (go_at_call 3; (with_reducible refine (reads_own (na := 6) HO7.out rfl ok_six HA7.out HC7.out.1 HC7.out.2).mono ?_); rintro e w8 ⟨rfl, hb8⟩; have HB8 : Hid (Below wy.heap.size wy w8) := bl_trans HB7.out hb8; clear hb8)
                | fail)
              all_goals clear HO6 HO7 HA7 HC7 HR1 HS7 HS8 HSG
              all_goals (have HTN : Hid (KS w wr.heap.size w8 ∧ Below w5.heap.size w5 w8) := ⟨HT.out.1.below HB8.out, bl_trans HT.out.2 HB8.out⟩)
              all_goals go_wp2
              all_goals (go_roundw; (case rel => exact ⟨k + 1, by have := HKN.out; omega, by rfl, HTN⟩); (case measure => have := HKN.out; simp only [intOf]; omega))
            · have hkI : (n : Int) < k := by omega
              have HKW := Lib.hid HT.out.1
              clear hkn hk HT
              go_wp2
              go_roundw
              case rel => exact ⟨i + 1, by have := HI.out; omega, by rfl, HKW⟩
              case measure => have := HI.out; simp only [intOf]; omega
        · have hiI : (36 : Int) ≤ i := by omega
          clear hi36 hi
          go_wp2
          go_loopw [7, 8] (fun nv jv wy => ∃ (j : Nat) (q : Option Addr) (c : Nat) (M : List Int), j ≤ 43 ∧ jv = .int .i64 (j : Nat) ∧ nv = .slice q M.length c ∧ Hid (M.length = j) ∧ Hid (OwnI wy wx.heap.size (.slice q M.length c) M) ∧ Hid (Below wx.heap.size wx wy)) (fun _ jv _ => 43 - (intOf jv).toNat)
          case atStart => exact ⟨0, some ⟨wx.heap.size, 0, none⟩, 0, [], by omega, rfl, rfl, rfl, own_empty wx, bl_alloc wx _⟩
          case round =>
            obtain ⟨j, q, c, M, hj, rfl, rfl, HM, HO, HB⟩ := hrel
            rename World => wy
            by_cases hj43 : j < 43
            · have hjI : (j : Int) < 43 := by omega
              have HJ := Lib.hid hj43
              clear hj43 hj
              obtain ⟨q2, c2, w2, h1, h2, h3⟩ := join_empty (ownI_row HO.out).1 (ownI_row HO.out).2 (by have := HM.out; have := HJ.out; omega)
              obtain ⟨v3, w3, g1, g2, g3⟩ := run_joinI (w := w2.alloc (.cells #[.int .i64 62, .int .i64 120] 3)) (cq := 2) 22 (ownI_below h2 (bl_alloc _ _)) (sli_block [62, 120] (MapKept.heap_alloc w2 _).1 rfl) (fun h => by cases h) (by have := HM.out; have := HJ.out; simp only [List.length_cons, List.length_nil]; omega) (bl_trans h3 (bl_alloc _ _)).size
              have hb3 : Below wy.heap.size wy w3 := bl_keep (bl_trans h3 (bl_alloc _ _)) (ownI_below h2 (bl_alloc _ _)) g3
              obtain ⟨N3, hN3⟩ : ∃ N, N = M ++ [62, 120] := ⟨_, rfl⟩
              rw [← hN3] at g2
              obtain ⟨q3, c3, rfl, _⟩ := ownI_form g2
              have H1 := Lib.hid h1
              have H2 := Lib.hid g1
              have HO3 := Lib.hid g2
              have HB3 := Lib.hid hb3
              clear h1 h2 h3 g1 g2 g3 hb3 hN3
              go_wp2_with (at_builtin; refine wpList_append_stop (by rfl) _ _ 22 rfl (.slice (some ⟨wy.heap.size, 0, none⟩) 0 0) (.slice q M.length c) (.slice q2 M.length c2) (by rfl) (by rfl) H1.out ?_)
              refine Stop.on ?_
              go_wp2_with (at_builtin; refine wpList_append_stop (by rfl) _ _ 22 rfl (.slice q2 M.length c2) (.slice (some ⟨w2.heap.size, 0, none⟩) 2 2) (.slice q3 N3.length c3) (by rfl) (by rfl) H2.out ?_)
              refine Stop.on ?_
              go_wp2_with fail
              refine (reads_own (na := 2) (ca := 2) (ownI_below HO3.out (bl_alloc _ _)) rfl ok_two (sla_block twoA (MapKept.heap_alloc w3 _).1 rfl) (by decide) (by decide)).mono ?_
              rintro e w4 ⟨rfl, hb4⟩
              have hb5 : Below wy.heap.size wy w4 := bl_trans (bl_trans HB3.out (bl_alloc _ _)) hb4
              have ho5 : OwnI (w4.alloc (.cells #[.int .i64 113] 3)) wx.heap.size (.slice q M.length c) M := ownI_below (ownI_below HO.out hb5) (bl_alloc _ _)
              have hb6 : Below wx.heap.size wx (w4.alloc (.cells #[.int .i64 113] 3)) := bl_trans (HB.out.trans (hb5.mono HB.out.size)) (bl_alloc _ _)
              obtain ⟨v6, w6, g1, g2, g3⟩ := run_joinI (w := w4.alloc (.cells #[.int .i64 113] 3)) (cq := 1) 22 ho5 (sli_block [113] (MapKept.heap_alloc w4 _).1 rfl) (fun h => by cases h) (by have := HM.out; have := HJ.out; simp only [List.length_cons, List.length_nil]; omega) hb6.size
              have HB6 := Lib.hid (bl_keep hb6 ho5 g3)
              obtain ⟨q6, c6, rfl, _⟩ := ownI_form g2
              have HM6 : Hid ((M ++ [113]).length = j + 1) := by have := HM.out; show _ = _; rw [List.length_append, this]; rfl
              have H6 := Lib.hid g1
              have HO6 := Lib.hid g2
              generalize M ++ [113] = M6 at *
              clear g1 g2 g3 hb4 hb5 hb6 ho5 H1 H2 HO3 HB3 HO HB HM
              go_wp2_with (at_builtin; refine wpList_append_run (by rfl) _ _ 22 rfl (.slice q M.length c) (.slice (some ⟨w4.heap.size, 0, none⟩) 1 1) (.slice q6 M6.length c6) (by rfl) (by rfl) H6.out ?_)
              go_roundw
              case rel => exact ⟨j + 1, q6, c6, M6, by have := HJ.out; omega, by rfl, rfl, HM6, HO6, HB6⟩
              case measure => have := HJ.out; simp only [intOf]; omega
            · have hjI : (43 : Int) ≤ j := by omega
              have HKS : Hid (KS w wr.heap.size wy) := ⟨by exact (HS.out.1.below HB.out), bl_trans HS.out.2.1 HB.out, (HS.out.below HB.out).2.2⟩
              obtain ⟨LB, hLB⟩ : ∃ L, L = sg [97, 98, 99] := ⟨_, rfl⟩
              have HSB : Hid (∀ W, Calls Try.prog 20 #[.string ⟨#[97, 98, 99]⟩] W (fun e w' => ∃ q c, e = .returned (.slice q LB.length c) ∧ OwnI w' W.heap.size (.slice q LB.length c) LB ∧ Below W.heap.size W w')) := fun W => by rw [hLB]; exact signs_law ⟨#[97, 98, 99]⟩ W (by decide)
              clear hLB hj43 hj HO HB HM
              go_wp2_with fail
              refine (reads_q [] allA 0 0 5 5 rfl rfl ok_all (.inl rfl) (fun _ => rfl) (by decide) (by decide) HKS.out.1 (by decide) (by decide)).mono ?_
              rintro e w2 ⟨rfl, hb2⟩
              have HB2 := Lib.hid (bl_trans HKS.out.2.1 hb2)
              clear hb2
              go_wp2_with fail
              refine (HSB.out _).mono ?_
              rintro e w3 ⟨q3, c3, rfl, ho3, hb3⟩
              have HB3 := Lib.hid (bl_trans HB2.out hb3)
              have HO3 := Lib.hid ho3
              clear ho3 hb3
              go_wp2_with fail
              refine (reads_own (na := 5) (ca := 5) (ownI_below HO3.out (bl_alloc _ _)) rfl ok_end (sla_block endA (MapKept.heap_alloc w3 _).1 rfl) (by decide) (by decide)).mono ?_
              rintro e w4 ⟨rfl, hb4⟩
              have HB4 := Lib.hid (bl_trans (bl_trans HB3.out (bl_alloc _ _)) hb4)
              clear hb4
              go_wp2_with fail
              refine (awake_true _).mono ?_
              rintro e w5 ⟨rfl, hb5⟩
              go_wp2
              go_ret
              exact ⟨rfl, bl_trans HB4.out hb5⟩
end Go.Proofs.Ytkpkhjflelmdjaa
