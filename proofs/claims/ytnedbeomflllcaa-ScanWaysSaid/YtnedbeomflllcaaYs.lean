/- The walk of the law's examples. -/
import Derived.Test.YtnedbeomflllcaaYr
namespace Go.Proofs.Ytnedbeomflllcaa
open Go.RowKit Tnd

theorem ownI_row {w : World} {B : Nat} {q : Option Addr} {c : Nat} {l : List Int} (h : OwnI w B (.slice q l.length c) l) : SlI w q l ∧ (q = none → c = 0) := by
  constructor
  · rcases h.2 with ⟨e, hn⟩ | ⟨g, cap, cur, e, _⟩
    · exact .inl (List.eq_nil_of_length_eq_zero hn)
    · simp only [Value.slice.injEq, true_and] at e
      obtain ⟨rfl, rfl⟩ := e
      exact .inr ⟨g, 0, rfl, fun i hi => by rw [Nat.zero_add]; exact ownI_cell h rfl i hi⟩
  · intro e
    rcases h.2 with ⟨e3, _⟩ | ⟨g, cap, cur, e3, _⟩
    · simp only [Value.slice.injEq] at e3; exact e3.2.2
    · simp only [Value.slice.injEq] at e3; rw [e] at e3; cases e3.1
theorem new_own {w : World} {B : Nat} {q : Option Addr} {c : Nat} {l : List Int} (h : OwnI w B (.slice q l.length c) l) (hl : l.length ≤ 1000000) :
    Calls Try.prog 9 #[.slice q l.length c] w (ObjPost l 0 w) := new_any q l c w (ownI_row h).1 (ownI_row h).2 hl
theorem escape_lit {B b : Nat} {l : List Int} {k : Nat} {x : Int} {n : Nat} {w : World} (h : Sc w B b l k) (e : escR (l.drop k) = some (x, n)) :
    Calls Try.prog 10 #[.pointer (some ⟨b, 0, none⟩)] w (CP w B b 43 [.pointer (some ⟨b, 0, none⟩)] l (.tuple #[.int .i64 x, .bool true]) (k + n)) :=
  Escape_scan B b l k x true (k + n) w h (by have := escape_any B b _ _ l k w h; rw [e] at this; exact this)
theorem escape_lit_no {B b : Nat} {l : List Int} {k : Nat} {w : World} (h : Sc w B b l k) (e : escR (l.drop k) = none) :
    Calls Try.prog 10 #[.pointer (some ⟨b, 0, none⟩)] w (CP w B b 43 [.pointer (some ⟨b, 0, none⟩)] l (.tuple #[.int .i64 0, .bool false]) k) :=
  Escape_scan B b l k 0 false k w h (by have := escape_any B b _ _ l k w h; rw [e] at this; exact this)
theorem Sc.beside {w w' : World} {B b B2 b2 : Nat} {l m : List Int} {k j : Nat} (h : Sc w B b l k) (h2 : Sc w B2 b2 m j) (hne : b2 ≠ b) (hg : w.grownBy w' (some b2)) : Sc w' B b l k := Cu.beside h h2 hne hg

set_option maxHeartbeats 3200000 in
theorem awake_true (w : World) : Calls Try.prog 4 #[] w fun e w' => e = .returned (.bool true) ∧ Below w.heap.size w w' := by
  obtain ⟨i0, hinf, hz0, hz1, hz2⟩ := info_parts info_int
  obtain ⟨L1, hL1⟩ : ∃ L, L = sg [117, 123, 49, 70, 54, 48, 48, 125] := ⟨_, rfl⟩
  have HN1 : Hid (L1.length = 8) := by show _ = _; rw [hL1]; rfl
  have HSG1 : Hid (∀ W, Calls Try.prog 8 #[.string ⟨#[117, 123, 49, 70, 54, 48, 48, 125]⟩] W fun e w' => ∃ q c, e = .returned (.slice q L1.length c) ∧ OwnI w' W.heap.size (.slice q L1.length c) L1 ∧ Below W.heap.size W w') := fun W => by
    rw [hL1]; exact signs_law ⟨#[117, 123, 49, 70, 54, 48, 48, 125]⟩ W (by decide)
  obtain ⟨L2, hL2⟩ : ∃ L, L = sg [117, 68, 56, 51, 68, 92, 117, 68, 69, 48, 48] := ⟨_, rfl⟩
  have HN2 : Hid (L2.length = 11) := by show _ = _; rw [hL2]; rfl
  have HSG2 : Hid (∀ W, Calls Try.prog 8 #[.string ⟨#[117, 68, 56, 51, 68, 92, 117, 68, 69, 48, 48]⟩] W fun e w' => ∃ q c, e = .returned (.slice q L2.length c) ∧ OwnI w' W.heap.size (.slice q L2.length c) L2 ∧ Below W.heap.size W w') := fun W => by
    rw [hL2]; exact signs_law ⟨#[117, 68, 56, 51, 68, 92, 117, 68, 69, 48, 48]⟩ W (by decide)
  obtain ⟨L3, hL3⟩ : ∃ L, L = sg [99, 106] := ⟨_, rfl⟩
  have HN3 : Hid (L3.length = 2) := by show _ = _; rw [hL3]; rfl
  have HSG3 : Hid (∀ W, Calls Try.prog 8 #[.string ⟨#[99, 106]⟩] W fun e w' => ∃ q c, e = .returned (.slice q L3.length c) ∧ OwnI w' W.heap.size (.slice q L3.length c) L3 ∧ Below W.heap.size W w') := fun W => by
    rw [hL3]; exact signs_law ⟨#[99, 106]⟩ W (by decide)
  obtain ⟨L4, hL4⟩ : ∃ L, L = sg [48, 49] := ⟨_, rfl⟩
  have HN4 : Hid (L4.length = 2) := by show _ = _; rw [hL4]; rfl
  have HSG4 : Hid (∀ W, Calls Try.prog 8 #[.string ⟨#[48, 49]⟩] W fun e w' => ∃ q c, e = .returned (.slice q L4.length c) ∧ OwnI w' W.heap.size (.slice q L4.length c) L4 ∧ Below W.heap.size W w') := fun W => by
    rw [hL4]; exact signs_law ⟨#[48, 49]⟩ W (by decide)
  obtain ⟨L5, hL5⟩ : ∃ L, L = sg [48, 49, 50, 51, 97] := ⟨_, rfl⟩
  have HN5 : Hid (L5.length = 5) := by show _ = _; rw [hL5]; rfl
  have HSG5 : Hid (∀ W, Calls Try.prog 8 #[.string ⟨#[48, 49, 50, 51, 97]⟩] W fun e w' => ∃ q c, e = .returned (.slice q L5.length c) ∧ OwnI w' W.heap.size (.slice q L5.length c) L5 ∧ Below W.heap.size W w') := fun W => by
    rw [hL5]; exact signs_law ⟨#[48, 49, 50, 51, 97]⟩ W (by decide)
  have HE1 : Hid (escR ((L1 ++ [120]).drop 0) = some (128512, 8)) := by show _ = _; rw [hL1]; decide
  have HG1 : Hid (hdR (L1 ++ [120]) 8 = 120) := by show _ = _; rw [hL1]; decide
  have HE2 : Hid (escR (L2.drop 0) = some (128512, 11)) := by show _ = _; rw [hL2]; decide
  have HE3 : Hid (escR (L3.drop 0) = some (10, 2)) := by show _ = _; rw [hL3]; decide
  have HE4 : Hid (escR (L4.drop 0) = none) := by show _ = _; rw [hL4]; decide
  have HD5 : Hid (numR 10 1073741824 (L5.drop 0).length 0 (L5.drop 0) = (123, 4)) := by show _ = _; rw [hL5]; decide
  clear hL1 hL2 hL3 hL4 hL5
  go_enter Try.func4, Try.ntmps4
  go_wp2_with fail
  refine (HSG1.out _).mono ?_
  rintro e w1 ⟨q1, c1, rfl, ho1, hb1⟩
  have ho1' := ho1
  unfold OwnI at ho1'
  have HO1 := Lib.hid ho1'
  have HB1 := Lib.hid hb1
  clear ho1 ho1' hb1
  go_wp2_with (at_builtin; refine wpList_append_own _ rfl _ _ 22 rfl w.heap.size 3 i0 (.int .i64 0) 1 8 Try.underlying22 hinf hz0 hz1 hz2 rfl (by decide) (.slice q1 L1.length c1) L1.length _ rfl (HO1.out.alloc _) ⟨w1.heap.size, 0, none⟩ 1 1 [.int .i64 120] rfl rfl ?k1 ?k2 ?k3 ?k4 ?k5 ?_)
  case k1 => exact World.news_of_block (cs := #[.int .i64 120]) (t := 3) (fr := (0, 0)) (MapKept.heap_alloc w1 _).1
  case k2 => simp [Value.oneCell']
  case k3 => rw [HN1.out]; decide
  case k4 => rw [HN1.out]; decide
  case k5 => have := HB1.out.size; simp; omega
  intro v2 w2 hown2 hgrow2 _
  have hO2 : OwnI w2 w.heap.size v2 (L1 ++ [120]) := by
    unfold OwnI
    rw [List.length_append, List.map_append]
    exact hown2
  have hb2 : Below w.heap.size w w2 := (HB1.out.alloc HB1.out.size _).grown hgrow2 (by have := HB1.out.size; simp; omega) (fun k hk => (HO1.out.lt k hk).1)
  obtain ⟨q2, c2, hs2, _⟩ := ownI_form hO2
  subst hs2
  have HNL : Hid ((L1 ++ [120]).length = 9) := by show _ = _; rw [List.length_append, HN1.out]; rfl
  generalize L1 ++ [120] = L0 at *
  have HO2 := Lib.hid hO2
  have HB2 := Lib.hid hb2
  clear hown2 hgrow2 hO2 hb2 HO1 HB1
  go_wp2_with fail
  refine (new_own HO2.out (by rw [HNL.out]; decide)).mono ?_
  rintro e w3 ⟨b1, rfl, hc3, hb3⟩
  have HB3 : Hid (Below w.heap.size w w3) := HB2.out.trans (hb3.mono HB2.out.size)
  have HC3 : Hid (Sc w3 w.heap.size b1 L0 0) := Cu.down hc3 HB2.out.size
  clear hc3 hb3 HO2 HB2
  go_wp2_with fail
  refine (escape_lit HC3.out HE1.out).mono ?_
  rintro e w4 ⟨rfl, hc4, hg4⟩
  have HB4 : Hid (Below w.heap.size w w4) := HB3.out.trans (grown_below hg4 HC3.out.le.1 HB3.out.size)
  have HC4 : Hid (Sc w4 w.heap.size b1 L0 8) := hc4
  clear hc4 hg4 HC3 HB3
  go_wp2_with fail
  refine (Next_scan w.heap.size b1 L0 8 120 true 9 _ HC4.out (by have := next_any w.heap.size b1 _ _ L0 8 w4 HC4.out; rw [HG1.out, HNL.out] at this; exact this)).mono ?_
  rintro e w5 ⟨rfl, hc5, hg5⟩
  have HB5 : Hid (Below w.heap.size w w5) := HB4.out.trans (grown_below hg5 HC4.out.le.1 HB4.out.size)
  have HC5 : Hid (Sc w5 w.heap.size b1 L0 9) := hc5
  clear hc5 hg5 HC4 HB4
  go_wp2_with fail
  refine (HSG2.out _).mono ?_
  rintro e w6 ⟨q, c, rfl, ho, hb⟩
  have HO := Lib.hid ho
  have HB6 : Hid (Below w.heap.size w w6) := HB5.out.trans (hb.mono HB5.out.size)
  have HC6 : Hid (Sc w6 w.heap.size b1 L0 9) := Cu.below HC5.out hb
  clear ho hb HB5 HC5
  go_wp2_with fail
  refine (new_own HO.out (by rw [HN2.out]; decide)).mono ?_
  rintro e w7 ⟨b2, rfl, hcn, hb⟩
  have HB7 : Hid (Below w.heap.size w w7) := HB6.out.trans (hb.mono HB6.out.size)
  have HC7 : Hid (Sc w7 w.heap.size b1 L0 9) := Cu.below HC6.out hb
  have HNE : Hid (b2 ≠ b1) := by have h1 := Cu.lt HC6.out; have h2 := (Cu.le hcn).1; show _ ≠ _; omega
  have HCn : Hid (Sc w7 w.heap.size b2 L2 0) := Cu.down hcn HB6.out.size
  clear hcn hb HB6 HC6 HO
  go_wp2_with fail
  refine (escape_lit HCn.out HE2.out).mono ?_
  rintro e w8 ⟨rfl, hc, hg⟩
  have HB8 : Hid (Below w.heap.size w w8) := HB7.out.trans (grown_below hg HCn.out.le.1 HB7.out.size)
  have HC8 : Hid (Sc w8 w.heap.size b1 L0 9) := HC7.out.beside HCn.out HNE.out hg
  clear hc hg HB7 HC7 HCn HNE
  go_wp2_with fail
  refine (HSG3.out _).mono ?_
  rintro e w9 ⟨q, c, rfl, ho, hb⟩
  have HO := Lib.hid ho
  have HB9 : Hid (Below w.heap.size w w9) := HB8.out.trans (hb.mono HB8.out.size)
  have HC9 : Hid (Sc w9 w.heap.size b1 L0 9) := Cu.below HC8.out hb
  clear ho hb HB8 HC8
  go_wp2_with fail
  refine (new_own HO.out (by rw [HN3.out]; decide)).mono ?_
  rintro e w10 ⟨b3, rfl, hcn, hb⟩
  have HB10 : Hid (Below w.heap.size w w10) := HB9.out.trans (hb.mono HB9.out.size)
  have HC10 : Hid (Sc w10 w.heap.size b1 L0 9) := Cu.below HC9.out hb
  have HNE : Hid (b3 ≠ b1) := by have h1 := Cu.lt HC9.out; have h2 := (Cu.le hcn).1; show _ ≠ _; omega
  have HCn : Hid (Sc w10 w.heap.size b3 L3 0) := Cu.down hcn HB9.out.size
  clear hcn hb HB9 HC9 HO
  go_wp2_with fail
  refine (escape_lit HCn.out HE3.out).mono ?_
  rintro e w11 ⟨rfl, hc, hg⟩
  have HB11 : Hid (Below w.heap.size w w11) := HB10.out.trans (grown_below hg HCn.out.le.1 HB10.out.size)
  have HC11 : Hid (Sc w11 w.heap.size b1 L0 9) := HC10.out.beside HCn.out HNE.out hg
  clear hc hg HB10 HC10 HCn HNE
  go_wp2_with fail
  refine (HSG4.out _).mono ?_
  rintro e w12 ⟨q, c, rfl, ho, hb⟩
  have HO := Lib.hid ho
  have HB12 : Hid (Below w.heap.size w w12) := HB11.out.trans (hb.mono HB11.out.size)
  have HC12 : Hid (Sc w12 w.heap.size b1 L0 9) := Cu.below HC11.out hb
  clear ho hb HB11 HC11
  go_wp2_with fail
  refine (new_own HO.out (by rw [HN4.out]; decide)).mono ?_
  rintro e w13 ⟨b4, rfl, hcn, hb⟩
  have HB13 : Hid (Below w.heap.size w w13) := HB12.out.trans (hb.mono HB12.out.size)
  have HC13 : Hid (Sc w13 w.heap.size b1 L0 9) := Cu.below HC12.out hb
  have HNE : Hid (b4 ≠ b1) := by have h1 := Cu.lt HC12.out; have h2 := (Cu.le hcn).1; show _ ≠ _; omega
  have HCn : Hid (Sc w13 w.heap.size b4 L4 0) := Cu.down hcn HB12.out.size
  clear hcn hb HB12 HC12 HO
  go_wp2_with fail
  refine (escape_lit_no HCn.out HE4.out).mono ?_
  rintro e w14 ⟨rfl, hc, hg⟩
  have HB14 : Hid (Below w.heap.size w w14) := HB13.out.trans (grown_below hg HCn.out.le.1 HB13.out.size)
  have HC14 : Hid (Sc w14 w.heap.size b1 L0 9) := HC13.out.beside HCn.out HNE.out hg
  clear hc hg HB13 HC13 HCn HNE
  go_wp2_with fail
  refine (HSG5.out _).mono ?_
  rintro e w15 ⟨q, c, rfl, ho, hb⟩
  have HO := Lib.hid ho
  have HB15 : Hid (Below w.heap.size w w15) := HB14.out.trans (hb.mono HB14.out.size)
  have HC15 : Hid (Sc w15 w.heap.size b1 L0 9) := Cu.below HC14.out hb
  clear ho hb HB14 HC14
  go_wp2_with fail
  refine (new_own HO.out (by rw [HN5.out]; decide)).mono ?_
  rintro e w16 ⟨b5, rfl, hcn, hb⟩
  have HB16 : Hid (Below w.heap.size w w16) := HB15.out.trans (hb.mono HB15.out.size)
  have HC16 : Hid (Sc w16 w.heap.size b1 L0 9) := Cu.below HC15.out hb
  have HNE : Hid (b5 ≠ b1) := by have h1 := Cu.lt HC15.out; have h2 := (Cu.le hcn).1; show _ ≠ _; omega
  have HCn : Hid (Sc w16 w.heap.size b5 L5 0) := Cu.down hcn HB15.out.size
  clear hcn hb HB15 HC15 HO
  go_wp2_with fail
  refine (Decimal_scan _ _ L5 0 123 4 4 _ HCn.out (by have := decimal_any _ _ _ _ L5 0 _ HCn.out; rw [HD5.out] at this; exact this)).mono ?_
  rintro e w17 ⟨rfl, hc, hg⟩
  have HB17 : Hid (Below w.heap.size w w17) := HB16.out.trans (grown_below hg HCn.out.le.1 HB16.out.size)
  have HC17 : Hid (Sc w17 w.heap.size b1 L0 9) := HC16.out.beside HCn.out HNE.out hg
  clear hc hg HB16 HC16 HCn HNE
  have HDN : Hid (Calls Try.prog 14 #[.pointer (some ⟨b1, 0, none⟩)] w17 (CP w17 w.heap.size b1 43 [.pointer (some ⟨b1, 0, none⟩)] L0 (.bool true) 9)) :=
    Done_scan w.heap.size b1 L0 9 true 9 _ HC17.out ((done_any w.heap.size b1 _ _ L0 9 _ HC17.out).mono (by
      rintro e w6 ⟨rfl, n, rfl⟩
      exact ⟨by rw [HNL.out]; rfl, Cu.drewN HC17.out n, grown_drewN _ n _⟩))
  go_wp2_with (go_at_call 14; refine HDN.out.mono ?_; rintro e w99 ⟨rfl, hc, hg⟩; have HB99 : Hid (Below w.heap.size w w99) := HB17.out.trans (grown_below hg HC17.out.le.1 HB17.out.size); clear hc hg)
  go_ret
  exact ⟨rfl, HB99.out⟩
end Go.Proofs.Ytnedbeomflllcaa
