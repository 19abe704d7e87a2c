/- The program's Close: what is closed, out of a map that is gone through in no order. -/
import Derived.Test.YtglgfpapackcdaaGreatGrb
import Derived.Test.YtglgfpapackcdaaGreatGks
import Derived.Test.YtglgfpapackcdaaGreatRu
import Derived.Test.YtglgfpapackcdaaGreatRzc

namespace Go.Proofs.YtglgfpapackcdaaGreat
open Go.RowKit Tnr Go.Maps

def sumN (f : Int → Nat) : List Int → Nat
  | [] => 0
  | t :: T => f t + sumN f T
theorem sumN_le {f g : Int → Nat} (h : ∀ t, f t ≤ g t) : ∀ {T : List Int}, sumN f T ≤ sumN g T
  | [] => Nat.le_refl _
  | t :: _ => Nat.add_le_add (h t) (sumN_le h)
theorem sumN_eq {f g : Int → Nat} : ∀ {T : List Int}, (∀ t ∈ T, f t = g t) → sumN f T = sumN g T
  | [], _ => rfl
  | t :: T, h => by
    unfold sumN
    rw [h t (by simp), sumN_eq (fun u hu => h u (by simp [hu]))]
theorem sumN_add (f g : Int → Nat) : ∀ (T : List Int), sumN (fun t => f t + g t) T = sumN f T + sumN g T
  | [] => rfl
  | t :: T => by
    unfold sumN
    rw [sumN_add f g T]; omega
theorem sumN_one (y : Int) : ∀ {T : List Int}, T.Nodup → sumN (fun t => if y = t then 1 else 0) T ≤ 1
  | [], _ => Nat.zero_le _
  | t :: T, h => by
    obtain ⟨h1, h2⟩ := List.nodup_cons.1 h
    unfold sumN
    by_cases e : y = t
    · have h3 : sumN (fun u => if y = u then 1 else 0) T = sumN (fun _ => 0) T := sumN_eq (fun u hu => by
        rw [if_neg]
        intro e2
        exact h1 (by rw [← e, e2]; exact hu))
      have h4 : ∀ l : List Int, sumN (fun _ => 0) l = 0 := by
        intro l
        induction l with
        | nil => rfl
        | cons a l ih => unfold sumN; rw [ih]
      rw [h3, h4]
      simp [e]
    · have := sumN_one y h2
      simp only [e, if_false]
      omega
theorem sumN_const (T : List Int) : sumN (fun _ => 1) T = T.length := by
  induction T with
  | nil => rfl
  | cons a l ih => unfold sumN; rw [ih, List.length_cons]; omega
theorem sum_filter {T : List Int} (hT : T.Nodup) : ∀ (F : List R), sumN (fun t => (F.filter fun f => f.2 == t).length) T ≤ F.length
  | [] => by
    have h4 : ∀ l : List Int, sumN (fun _ => 0) l = 0 := by
      intro l
      induction l with
      | nil => rfl
      | cons a l ih => unfold sumN; rw [ih]
    simp [h4]
  | f :: F => by
    have h1 := sum_filter hT F
    have h2 := sumN_one f.2 hT
    have h3 : sumN (fun t => ((f :: F).filter fun f => f.2 == t).length) T = sumN (fun t => (if f.2 = t then 1 else 0) + (F.filter fun f => f.2 == t).length) T := sumN_eq (fun t _ => by
      by_cases e : f.2 = t
      · have e2 : (f.2 == t) = true := by rw [e]; exact BEq.rfl
        rw [List.filter_cons_of_pos (by exact e2), if_pos e, List.length_cons]; omega
      · have e2 : ¬ (f.2 == t) = true := by simpa using e
        rw [List.filter_cons_of_neg (by exact e2), if_neg e]; omega)
    rw [h3, sumN_add, List.length_cons]
    omega
theorem nodup_of : ∀ (l : List Int), ∃ T : List Int, T.Nodup ∧ (∀ x, x ∈ T ↔ x ∈ l) ∧ T.length ≤ l.length
  | [] => ⟨[], List.nodup_nil, fun _ => Iff.rfl, Nat.le_refl _⟩
  | a :: l => by
    obtain ⟨T, h1, h2, h3⟩ := nodup_of l
    by_cases e : a ∈ T
    · refine ⟨T, h1, fun x => ?_, by rw [List.length_cons]; omega⟩
      rw [h2 x, List.mem_cons]
      constructor
      · exact .inr
      · rintro (rfl | h)
        · exact (h2 _).1 e
        · exact h
    · refine ⟨a :: T, List.nodup_cons.2 ⟨e, h1⟩, fun x => ?_, by simp only [List.length_cons]; omega⟩
      rw [List.mem_cons, List.mem_cons, h2 x]
theorem toks_length (F A : List R) : (toks F A).length ≤ F.length := by
  unfold toks
  rw [List.length_map]
  exact List.length_filter_le _ _
theorem tot_g2 (F A : List R) {T : List Int} (hT : T.Nodup) (hm : ∀ t ∈ T, t ∈ toks F A) : sumN (fun t => (g2 F A F.length t).length) T ≤ T.length + F.length := by
  have h1 : sumN (fun t => (g2 F A F.length t).length) T = sumN (fun t => 1 + (F.filter fun f => f.2 == t).length) T := sumN_eq (fun t ht => by
    unfold g2
    rw [if_pos (hm t ht), List.take_length, List.length_cons, List.length_map]; omega)
  rw [h1, sumN_add, sumN_const]
  have := sum_filter hT F
  omega
theorem sumN_strike {T : List Int} (g : Int → Nat) (left : Lit → Bool) {x : Int} (hT : T.Nodup) (hx : x ∈ T) (hl : left (.int .i64 x) = true) :
    sumN (fun t => if (left (.int .i64 t) && !(Lit.int .i64 t).sameKey (.int .i64 x)) = true then g t else 0) T + g x = sumN (fun t => if left (.int .i64 t) = true then g t else 0) T := by
  induction T with
  | nil => cases hx
  | cons a l ih =>
    obtain ⟨h1, h2⟩ := List.nodup_cons.1 hT
    unfold sumN
    by_cases e : a = x
    · subst e
      have h3 : sumN (fun t => if (left (.int .i64 t) && !(Lit.int .i64 t).sameKey (.int .i64 a)) = true then g t else 0) l = sumN (fun t => if left (.int .i64 t) = true then g t else 0) l := sumN_eq (fun t ht => by
        have hne : t ≠ a := fun e => h1 (e ▸ ht)
        rw [sameKey_ne (show Lit.int .i64 t ≠ .int .i64 a by intro h; cases h; exact hne rfl)]
        simp)
      rw [h3]
      simp only [WideAt.sameKey_self (key_i64 a), hl]
      simp
      omega
    · have hx2 : x ∈ l := by
        rcases List.mem_cons.1 hx with h | h
        · exact absurd h.symm e
        · exact h
      have h4 := ih h2 hx2
      simp only [sameKey_ne (show Lit.int .i64 a ≠ .int .i64 x by intro h; cases h; exact e rfl), Bool.not_false, Bool.and_true]
      omega
theorem mem_all {F A : List R} {c : Int} : (∃ t, t ∈ toks F A ∧ c ∈ g2 F A F.length t) ↔ c ∈ toks F A ∨ c ∈ froms F A := by
  constructor
  · rintro ⟨t, h1, h2⟩
    rw [g2_mem] at h2
    rcases h2.2 with rfl | ⟨f, hf, hf2, rfl⟩
    · exact .inl h1
    · exact .inr (mem_froms.2 ⟨f, hf, by rw [hf2]; exact h1, rfl⟩)
  · rintro (h | h)
    · exact ⟨c, h, (g2_mem F A c c).2 ⟨h, .inl rfl⟩⟩
    · obtain ⟨f, hf, hf2, hf3⟩ := mem_froms.1 h
      exact ⟨f.2, hf2, (g2_mem F A c f.2).2 ⟨hf2, .inr ⟨f, hf, rfl, hf3⟩⟩⟩
def Seen (F A : List R) (left : Lit → Bool) (L : List Int) : Prop := ∀ c, c ∈ L ↔ ∃ t, t ∈ toks F A ∧ left (.int .i64 t) = false ∧ c ∈ g2 F A F.length t
theorem seen_start {F A : List R} {D : DataW Unit} (h : DG D (g2 F A F.length)) : Seen F A (Maps.has D) [] := by
  intro c
  constructor
  · intro h; cases h
  · rintro ⟨t, h1, h2, _⟩
    rw [h.hs] at h2
    have := g2_ne (i := F.length).2 h1
    simp at h2
    exact absurd h2 this
theorem seen_step {F A : List R} {left : Lit → Bool} {L : List Int} (h : Seen F A left L) {x : Int} (hx : x ∈ toks F A) : Seen F A (fun z => left z && !z.sameKey (.int .i64 x)) (L ++ g2 F A F.length x) := by
  intro c
  rw [List.mem_append, h c]
  constructor
  · rintro (⟨t, h1, h2, h3⟩ | h4)
    · exact ⟨t, h1, by simp [h2], h3⟩
    · exact ⟨x, hx, by simp [WideAt.sameKey_self (key_i64 x)], h4⟩
  · rintro ⟨t, h1, h2, h3⟩
    by_cases e : t = x
    · subst e; exact .inr h3
    · refine .inl ⟨t, h1, ?_, h3⟩
      simp only [sameKey_ne (show Lit.int .i64 t ≠ .int .i64 x by intro h; cases h; exact e rfl), Bool.not_false, Bool.and_true] at h2
      exact h2
theorem seen_end {F A : List R} {left : Lit → Bool} {L : List Int} (h : Seen F A left L) (hl : ∀ kl, left kl = false) (c : Int) : c ∈ L ↔ c ∈ toks F A ∨ c ∈ froms F A := by
  rw [h c, ← mem_all]
  exact ⟨fun ⟨t, h1, _, h3⟩ => ⟨t, h1, h3⟩, fun ⟨t, h1, h3⟩ => ⟨t, h1, hl _, h3⟩⟩
theorem two_clo {F A L : List R} {X : List R} {Q : List Int} (hA : A = cn X) (hL : L = cn (pts Q)) (hQ : ∀ c, c ∈ Q ↔ c ∈ toks F A ∨ c ∈ froms F A) : cn (A ++ L) = clo F X := by
  subst hA
  rw [← clo_cn]
  refine clo_of fun c => ?_
  rw [has_append, hL, cn_has (pts Q), pts_has, hQ c]

theorem fr_length {F : List R} (h : FR F) : F.length ≤ 1114112 := by
  have h1 : ∀ i, i < F.length → (i : Int) ≤ (gr F i).1 := by
    intro i
    induction i with
    | zero => intro h0; have := (h.1 0 h0).1.1; simpa using this
    | succ i ih =>
      intro h2
      have h3 := ih (by omega)
      have h4 := h.2.1 i (i + 1) (by omega) h2
      omega
  by_cases e : F.length = 0
  · omega
  · have h2 := h1 (F.length - 1) (by omega)
    have h3 := (h.1 (F.length - 1) (by omega)).1.2
    omega
theorem ints_open {w : World} {base : Nat} {v : Value} {zs : List Int} (h : w.ownsInts base 3 .i64 v zs) (hne : zs ≠ []) : ∃ g cap, v = .slice (some ⟨g, 0, none⟩) zs.length cap ∧ g < w.heap.size ∧ ∀ j u, (zs.map (Value.int .i64))[j]? = some u → w.cell? ((⟨g, 0, none⟩ : Addr).add j) = some u := by
  have h1 := h.1
  rcases h.1.2 with ⟨_, h0⟩ | ⟨g, cap, cur, rfl, _, hh, _⟩
  · exact absurd (List.length_eq_zero_iff.1 h0) hne
  · exact ⟨g, cap, rfl, lt_of_block hh, h1.cells rfl⟩
theorem own_next {w w' : World} {r no d : Nat} {q : Option Addr} {L : List Int} (h : OwnI w (r + 1) (.slice q no d) L) (hg : w.grownBy w' (some r)) : OwnI w' (r + 1) (.slice q no d) L := by
  refine World.ownsRow.kept h hg ?_
  cases hb : (Value.slice q no d).ownBlock with
  | none => exact .inl rfl
  | some g =>
    refine .inr fun e => ?_
    have := (World.ownsRow.lt h g hb).1
    cases e
    omega
theorem ownI_app {w' : World} {B : Nat} {v' : Value} {l z : List Int} {n : Nat} (hn : n = l.length) (h : w'.ownsRow B 3 1 v' (n + z.length) (l.map (Value.int .i64) ++ z.map (Value.int .i64))) : OwnI w' B v' (l ++ z) := by
  unfold OwnI
  rw [List.length_append, ← hn, List.map_append]
  exact h
set_option maxHeartbeats 6400000 in
set_option maxRecDepth 100000 in
theorem fclose_any (pf pp q : Option Addr) (cf cp cq n m k : Nat) (F : List R) (ps : List PV) (xs : List SV) (w : World) (h : Tab w pf n pp m F ps) (hx : SlS w q xs) (hk : k = xs.length) (hfl : (flat xs).length ≤ 20000000) (hkk : k ≤ 20000000) :
    Calls Tryz.prog 16 #[.agg #[.slice pf n cf, .slice pp m cp], .slice q k cq] w fun e w' => ∃ S, ((TR F ps ∧ S = clo F (flat xs)) ∨ (¬ TR F ps ∧ S = cn (flat xs))) ∧ Tells w S e w' := by
  obtain ⟨i0, hinf, hz0, hz1, hz2⟩ := info_parts info_int
  have HT := Lib.hid h
  have HX := Lib.hid hx
  have HK := Lib.hid hk
  have HFL := Lib.hid hfl
  have HKK := Lib.hid hkk
  obtain ⟨A, hA⟩ : ∃ A, A = cn (flat xs) := ⟨_, rfl⟩
  have HA := Lib.hid hA
  have HAL : Hid (A.length ≤ 20000000) := by show _ ≤ _; rw [hA]; exact Nat.le_trans (cn_length _) hfl
  obtain ⟨w0, hw0⟩ : ∃ w0, w0 = w.alloc (.cells #[.slice pf n cf, .slice pp m cp] 30) := ⟨_, rfl⟩
  have hb0 : w0.cell? ⟨w.heap.size, 0, none⟩ = some (.slice pf n cf) := by rw [hw0, World.cell?_alloc_at _ _ _ _ rfl]; rfl
  have hb1 : w0.cell? ⟨w.heap.size, 1, none⟩ = some (.slice pp m cp) := by rw [hw0, World.cell?_alloc_at _ _ _ _ rfl]; rfl
  have K0 : Hid (Below w.heap.size w w0) := by rw [hw0]; exact bl_alloc _ _
  have HJ := Lib.hid (join_any q cq k xs A w0 hA hk (hx.below K0.out) (by omega) (by omega))
  rw [hw0] at HJ
  clear h hx hk hfl hkk hA
  go_enter Tryz.func16, Tryz.ntmps16
  go_wp2_with fail
  refine HJ.out.mono ?_
  rw [← hw0]
  rintro e w1 ⟨qa, ca, rfl, ho, hb⟩
  have SA := Lib.hid (tells_sl ho)
  have HOA := Lib.hid (ownR_mono ho (K0.out.size))
  have K := Lib.hid (bl_trans K0.out hb)
  replace hb0 := keep_cell hb hb0
  replace hb1 := keep_cell hb hb1
  clear ho hb hw0 K0 HJ
  go_wp2_with fail
  refine (taken_any propsRight_any pf pp cf cp n m F ps w1 (HT.out.below K.out)).mono ?_
  rintro e w2 ⟨htk, hb2⟩
  have K2 := Lib.hid (bl_trans K.out hb2)
  have SA2 := Lib.hid (SA.out.below hb2)
  have HOA2 := Lib.hid (ownR_below HOA.out hb2)
  obtain ⟨pf', n', cf', pp', m', cp', F', rfl, hn', hp', hF', hr', hcl⟩ : ∃ (pf' : Option Addr) (n' cf' : Nat) (pp' : Option Addr) (m' cp' : Nat) (F' : List R), e = .returned (.agg #[.slice pf' n' cf', .slice pp' m' cp']) ∧ n' = F'.length ∧ SlR w2 pf' F' ∧ F'.length ≤ 1200000 ∧ (∀ i, i < F'.length → PtI (gr F' i).1 ∧ PtI (gr F' i).2) ∧ ((TR F ps ∧ clo F' (flat xs) = clo F (flat xs)) ∨ (¬ TR F ps ∧ clo F' (flat xs) = cn (flat xs))) := by
    rcases htk with ⟨h1, h2⟩ | ⟨h1, h2⟩
    · exact ⟨pf, n, cf, pp, m, cp, F, h2, HT.out.fl, (HT.out.fs.below K.out).below hb2, Nat.le_trans (fr_length h1.1) (by decide), h1.1.1, .inl ⟨h1, rfl⟩⟩
    · exact ⟨none, 0, 0, none, 0, 0, [], h2, rfl, .inl rfl, by simp, fun i hi => absurd hi (by simp), .inr ⟨h1, clo_nil _⟩⟩
  obtain ⟨T, hTn, hTm, hTl⟩ := nodup_of (toks F' A)
  have HTN := Lib.hid (And.intro hTn hTm)
  have HTOT : Hid (sumN (fun t => (g2 F' A F'.length t).length) T ≤ 2400000) := by
    have h1 := tot_g2 F' A hTn (fun t ht => (hTm t).1 ht)
    have h2 := toks_length F' A
    show _ ≤ _
    omega
  clear hTn hTm hTl
  obtain ⟨S, hS⟩ : ∃ S, S = clo F' (flat xs) := ⟨_, rfl⟩
  rw [← hS] at hcl
  have HS := Lib.hid hS
  have HF2 := Lib.hid hF'
  have HCL := Lib.hid hcl
  have HRW := Lib.hid (rows_any pf' pp' qa cf' cp' ca n' m' A.length F' A w2 hn' hp' rfl SA2.out (by rw [HA.out]; exact cn_right _) (by have := HAL.out; omega) hF' hr')
  clear htk hb2 hb0 hb1 SA HOA hn' hp' hF' hr' hcl hS
  go_wp2_with fail
  refine HRW.out.mono ?_
  rintro e w3 ⟨b, base, nn, D, rfl, hg, hnn, hsz, hdg, hbb, hb3⟩
  have K3 := Lib.hid (bl_trans K2.out hb3)
  have SA3 := Lib.hid (SA2.out.below hb3)
  have HOA3 := Lib.hid (ownR_below HOA2.out hb3)
  have HDG := Lib.hid hdg
  have HSZ := Lib.hid hsz
  have HBL : Hid (b < w3.heap.size) := hg.map.lt
  have HMP := Lib.hid hg.map
  clear hg hnn hsz hdg hbb hb3 HRW SA2 HOA2
  go_wp2_with (at_range; refine wpList_range_own _ rfl _ 79 rfl 3 22 klaw Tryz.underlying79 _ b nn D rfl HMP.out ?_)
  intro w4 hrg hg4 hs4
  have HRG := Lib.hid hrg
  have HB4 : Hid (Below w3.heap.size w3 w4) := (Below.refl _ _).grown hg4 (Nat.le_refl _) (fun j hj => by cases hj)
  have HS4 := Lib.hid hs4
  clear hrg hg4 hs4
  generalize hr3 : w3.heap.size = r at HRG HS4 HBL ⊢
  have HR3 := Lib.hid hr3
  clear hr3
  go_wp2
  try go_frame
  go_loopw [6] (fun av wr => ∃ (no d : Nat) (qr : Option Addr) (L : List Int) (left : Lit → Bool) (cnt : Nat), av = .slice qr no d ∧ Hid (no = L.length) ∧ Hid (wr.ranges Tryz.prog 3 (rowElem w3 base 3 .i64) b r nn D left cnt) ∧ Hid (Seen F' A left L) ∧ Hid (no + sumN (fun t => if left (.int .i64 t) = true then (g2 F' A F'.length t).length else 0) T ≤ 2400000) ∧ Hid (OwnI wr (r + 1) (.slice qr no d) L) ∧ Hid (Below w3.heap.size w3 wr) ∧ Hid (r + 1 ≤ wr.heap.size)) (fun _ wr => wr.rangeLeft b r)
  case atStart => exact ⟨0, 0, none, [], _, _, rfl, rfl, HRG.out, seen_start HDG.out, by have := HTOT.out; have := sumN_le (f := fun t => if Maps.has D (.int .i64 t) = true then (g2 F' A F'.length t).length else 0) (g := fun t => (g2 F' A F'.length t).length) (T := T) (fun t => by split <;> omega); show _ ≤ _; omega, ownI_nil _ _, HB4.out, Nat.le_of_eq HS4.out.symm⟩
  case round =>
    obtain ⟨no, d, qr, L, left, cnt, rfl, HNO, HRG, HSN, HCN, HOW, HB, HWS⟩ := hrel
    rename World => wr
    go_wp2_with (at_next; refine wpList_next_ranges _ rfl _ rfl 3 klaw (rowElem w3 base 3 .i64) (Value.int .i64) (fun v : Value => v) (fun key kl hk => by obtain ⟨x, h, _⟩ := keyOf_int_inv Tryz.underlying3 hk; exact ⟨x, h⟩) (fun v _ _ => ⟨v, rfl⟩) b r nn D left cnt rfl HRG.out ?_ ?_)
    · intro hc0 hl0
      have HMEM := Lib.hid (seen_end HSN.out hl0)
      have HL2 : Hid (L.length ≤ 2400000) := by have h1 := HCN.out; have h2 := HNO.out; show _ ≤ _; omega
      have SAr := Lib.hid (SA3.out.below HB.out)
      have HOAr := Lib.hid (ownR_below HOA3.out HB.out)
      have Kr := Lib.hid (bl_trans K3.out HB.out)
      obtain ⟨O, hO⟩ : ∃ O, O = cn (pts L) := ⟨_, rfl⟩
      have HOO := Lib.hid hO
      have HJO := Lib.hid (of_any qr d no L O wr hO HNO.out (ownI_sl HOW.out HNO.out) (by have := HL2.out; omega))
      clear hc0 hl0 HRG HSN HCN hO
      go_wp2_with fail
      refine HJO.out.mono ?_
      rintro e w6 ⟨qo, co, rfl, ho, hb⟩
      have SO6 := tells_sl ho
      have SA6 := SAr.out.below hb
      have HOL : Hid (O.length ≤ 2400000) := by
        have h1 := cn_length (pts L)
        have h4 : (pts L).length = L.length := by simp [pts]
        have h5 := HL2.out
        show _ ≤ _
        rw [HOO.out]; omega
      have HSL : Hid (SlS (w6.alloc (.cells #[.slice qa A.length ca, .slice qo O.length co] 25)) (some ⟨w6.heap.size, 0, none⟩) [(qa, ca, A), (qo, co, O)]) := sls_new (fun x hx => by
        simp only [List.mem_cons, List.not_mem_nil, or_false] at hx
        rcases hx with rfl | rfl
        · exact SA6
        · exact SO6) rfl
      have hef : flat [(qa, ca, A), (qo, co, O)] = A ++ O := by simp [flat]
      have HJJ := Lib.hid (join_any (some ⟨w6.heap.size, 0, none⟩) 2 2 [(qa, ca, A), (qo, co, O)] S _ (by rw [hef, HS.out]; exact (two_clo HA.out HOO.out HMEM.out).symm) rfl HSL.out (by rw [hef, List.length_append]; have h1 := HAL.out; have h2 := HOL.out; omega) (by simp))
      have K6 := Lib.hid (bl_trans Kr.out (bl_trans hb (bl_alloc w6 (.cells #[.slice qa A.length ca, .slice qo O.length co] 25))))
      clear ho hb SO6 SA6 hef HSL HJO
      go_wp2_with fail
      refine HJJ.out.mono ?_
      rintro e w8 ⟨q8, c8, rfl, ho, hb⟩
      have HO8 := Lib.hid ho
      have HB8 := Lib.hid hb
      clear ho hb
      go_wp2
      go_ret
      exact ⟨S, HCL.out, q8, c8, rfl, ownR_mono HO8.out K6.out.size, bl_trans K6.out HB8.out⟩
    · intro x v kl y ps2 w1' cnt' hkey hlk hRv hat hrg hlt hgr hsz hen
      obtain ⟨x', hx', rfl, _⟩ := keyOf_int_inv Tryz.underlying3 hkey
      obtain rfl : x = x' := by cases hx'; rfl
      have hhas := has_true_of_atKey hat
      have hgne : g2 F' A F'.length x ≠ [] := by
        rw [HDG.out.hs] at hhas
        simpa using hhas
      obtain ⟨zs, hoi, hy⟩ := rowElem_inv hRv
      obtain rfl : y = rowDatum .i64 v zs := congrArg Prod.fst hy
      have hzs := HDG.out.row hgne (hat _) hoi
      obtain ⟨g, cap, rfl, hgl, hcells⟩ := ints_open hoi (by rw [hzs]; exact hgne)
      have hst := sumN_strike (T := T) (fun t => (g2 F' A F'.length t).length) left HTN.out.1 ((HTN.out.2 x).2 (g2_ne.1 hgne)) hlk
      have HZL : Hid (no + zs.length + sumN (fun t => if (left (.int .i64 t) && !(Lit.int .i64 t).sameKey (.int .i64 x)) = true then (g2 F' A F'.length t).length else 0) T ≤ 2400000) := by
        have h1 := HCN.out
        show _ ≤ _
        rw [hzs]
        omega
      clear hst
      have HSN' : Hid (Seen F' A (fun z => left z && !z.sameKey (.int .i64 x)) (L ++ zs)) := by
        rw [hzs]; exact seen_step HSN.out (g2_ne.1 hgne)
      have HB1' : Hid (Below w3.heap.size w3 w1') := HB.out.grown hgr HB.out.size (fun j hj => by cases hj; exact Nat.le_of_eq HR3.out)
      have HOW1 : Hid (OwnI w1' (r + 1) (.slice qr no d) L) := own_next HOW.out hgr
      have HRG1 := Lib.hid hrg
      have HWS1 : Hid (r + 1 ≤ w1'.heap.size) := by show _ ≤ _; rw [hsz]; exact HWS.out
      have HLT := Lib.hid hlt
      have hcw : ∀ j u, (zs.map (Value.int .i64))[j]? = some u → w1'.cell? ((⟨g, 0, none⟩ : Addr).add j) = some u := fun j u hj => keep_cell HB1'.out (hcells j u hj)
      have HCW := Lib.hid hcw
      have HEQ := Lib.hid hgne
      have HRO := Lib.hid (ownI_row HOW1.out HNO.out)
      clear hzs hgne hhas hat hy hRv hlk hcells hgl hcw hoi hrg hlt hsz hgr
      go_wp2_with (at_builtin; refine wpList_append_own _ rfl _ _ 22 rfl (r + 1) 3 i0 (.int .i64 0) 1 8 Tryz.underlying22 hinf hz0 hz1 hz2 rfl (by decide) (.slice qr no d) no _ rfl HRO.out ⟨g, 0, none⟩ zs.length cap (zs.map (Value.int .i64)) rfl (by simp) HCW.out (by simp [Value.oneCell']) (by have := HZL.out; simp only [maxLen]; omega) (by have := HZL.out; omega) HWS1.out ?_)
      intro v5 w5 hown5 hgrow5 _
      have HO5 : Hid (OwnI w5 (r + 1) v5 (L ++ zs)) := ownI_app HNO.out hown5
      have hbk : ∀ j, (Value.slice qr no d).ownBlock = some j → r + 1 ≤ j := fun j hj => (World.ownsRow.lt HRO.out j hj).1
      have HB5 : Hid (Below w3.heap.size w3 w5) := HB1'.out.grown hgrow5 HB1'.out.size (fun j hj => by have := hbk j hj; have := HR3.out; omega)
      have HRG5 := Lib.hid (HRG1.out.kept hgrow5 (fun e => by have := hbk b e.symm; have := HBL.out; omega) (fun e => by have := hbk r e.symm; omega))
      have HW5 : Hid (r + 1 ≤ w5.heap.size) := Nat.le_trans HWS1.out hgrow5.size
      obtain ⟨q5, d5, n5, HK5, rfl, HO5⟩ := ownI_open HO5.out
      have HC5 : Hid (n5 + sumN (fun t => if (left (.int .i64 t) && !(Lit.int .i64 t).sameKey (.int .i64 x)) = true then (g2 F' A F'.length t).length else 0) T ≤ 2400000) := by
        show _ ≤ _
        rw [HK5.out, List.length_append, ← HNO.out]
        exact HZL.out
      have HML := Lib.hid (HRG5.out.left_eq.trans (rfl : cnt' = cnt'))
      have HMR := Lib.hid HRG.out.left_eq
      clear hown5 hgrow5 hbk
      go_wp2
      go_roundw
      case rel => exact ⟨n5, d5, q5, L ++ zs, _, cnt', rfl, HK5.out, HRG5.out, HSN'.out, HC5.out, HO5.out, HB5.out, HW5.out⟩
      case measure => rw [HML.out, HMR.out]; exact HLT.out
end Go.Proofs.YtglgfpapackcdaaGreat
