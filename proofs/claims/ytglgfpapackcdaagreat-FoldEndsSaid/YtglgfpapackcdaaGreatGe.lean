/- Plain: what is closed: the sets, and the From and the To of each fold whose To is met. -/
/- The walk of the document's Close: its first part. -/
import Derived.Test.YtglgfpapackcdaaGreatRa
import Derived.Test.YtglgfpapackcdaaGreatGi

namespace Go.Proofs.YtglgfpapackcdaaGreat
open Tnr

def toks (F A : List R) : List Int := (F.filter fun f => hasB A f.1 || hasB A f.2).map (·.2)
def froms (F A : List R) : List Int := (F.filter fun f => decide (f.2 ∈ toks F A)).map (·.1)
def clo (F A : List R) : List R := cn (A ++ pts (toks F A ++ froms F A))
theorem hasB_iff {l : List R} {c : Int} : hasB l c = true ↔ Has l c := by unfold hasB; exact decide_eq_true_iff
theorem mem_toks {F A : List R} {c : Int} : c ∈ toks F A ↔ ∃ f ∈ F, (Has A f.1 ∨ Has A f.2) ∧ f.2 = c := by
  unfold toks
  simp only [List.mem_map, List.mem_filter, Bool.or_eq_true, hasB_iff]
  constructor
  · rintro ⟨f, ⟨h1, h2⟩, h3⟩; exact ⟨f, h1, h2, h3⟩
  · rintro ⟨f, h1, h2, h3⟩; exact ⟨f, ⟨h1, h2⟩, h3⟩
theorem mem_froms {F A : List R} {c : Int} : c ∈ froms F A ↔ ∃ f ∈ F, f.2 ∈ toks F A ∧ f.1 = c := by
  unfold froms
  simp only [List.mem_map, List.mem_filter, decide_eq_true_iff]
  constructor
  · rintro ⟨f, ⟨h1, h2⟩, h3⟩; exact ⟨f, h1, h2, h3⟩
  · rintro ⟨f, h1, h2, h3⟩; exact ⟨f, ⟨h1, h2⟩, h3⟩
theorem clo_right (F A : List R) : Rt (clo F A) := cn_right _
theorem clo_has (F A : List R) (c : Int) : Has (clo F A) c ↔ Has A c ∨ (0 ≤ c ∧ c ≤ 1114111 ∧ (c ∈ toks F A ∨ c ∈ froms F A)) := by
  unfold clo
  rw [cn_has, has_append, pts_has, List.mem_append]
theorem clo_of {F A L : List R} (h : ∀ c, Has L c ↔ Has A c ∨ (0 ≤ c ∧ c ≤ 1114111 ∧ (c ∈ toks F A ∨ c ∈ froms F A))) : cn L = clo F A := by
  unfold clo
  rw [cn_eq]
  intro c
  rw [h c, has_append, pts_has, List.mem_append]
theorem toks_cn (F A : List R) : toks F (cn A) = toks F A := by
  unfold toks
  congr 1
  apply List.filter_congr
  intro f _
  rw [hasB_eq (cn_has A f.1), hasB_eq (cn_has A f.2)]
theorem froms_cn (F A : List R) : froms F (cn A) = froms F A := by
  unfold froms; rw [toks_cn]
theorem clo_cn (F A : List R) : clo F (cn A) = clo F A := by
  refine (clo_of (L := cn A ++ pts (toks F (cn A) ++ froms F (cn A))) fun c => ?_)
  rw [has_append, cn_has, pts_has, toks_cn, froms_cn, List.mem_append]
theorem clo_nil (A : List R) : clo [] A = cn A := by
  symm
  refine clo_of fun c => ?_
  simp [toks, froms]
end Go.Proofs.YtglgfpapackcdaaGreat


namespace Go.Proofs.YtglgfpapackcdaaGreat
open Go.RowKit Tnr

theorem toks_step (F A : List R) {i : Nat} (h : i < F.length) : toks (F.take (i + 1)) A = toks (F.take i) A ++ (if hasB A (gr F i).1 || hasB A (gr F i).2 then [(gr F i).2] else []) := by
  unfold toks
  rw [take_gr h, List.filter_append, List.map_append]
  congr 1
  by_cases e : (hasB A (gr F i).1 || hasB A (gr F i).2) = true
  · simp [List.filter, e]
  · simp [List.filter, Bool.not_eq_true _ ▸ e]
def fromsB (F M : List R) : List Int := (F.filter fun f => hasB M f.2).map (·.1)
theorem fromsB_step (F M : List R) {i : Nat} (h : i < F.length) : fromsB (F.take (i + 1)) M = fromsB (F.take i) M ++ (if hasB M (gr F i).2 then [(gr F i).1] else []) := by
  unfold fromsB
  rw [take_gr h, List.filter_append, List.map_append]
  congr 1
  by_cases e : hasB M (gr F i).2 = true
  · simp [List.filter, e]
  · simp [List.filter, e]

theorem row_below {w w' : World} {B n sz : Nat} {e : TypeId} {v : Value} {xs : List Value} (h : w.ownsRow B e sz v n xs) (hb : Below w.heap.size w w') : w'.ownsRow B e sz v n xs := by
  obtain ⟨h1, h2⟩ := h
  refine ⟨h1, ?_⟩
  rcases h2 with h2 | ⟨g, cap, cur, h3, hg, hh, r⟩
  · exact .inl h2
  · exact .inr ⟨g, cap, cur, h3, hg, by rw [hb.block g (lt_of_block hh)]; exact hh, r⟩
theorem row_two {w : World} (u v : Value) : (w.alloc (.cells #[u, v] 25)).ownsRow w.heap.size 25 1 (.slice (some ⟨w.heap.size, 0, none⟩) 2 2) 2 [u, v] :=
  ⟨rfl, .inr ⟨w.heap.size, 2, #[u, v], rfl, Nat.le_refl _, heap_alloc_new w _, Nat.le_refl _, by simp only [maxLen]; omega, rfl, rfl⟩⟩
theorem sls_row {w : World} {B n c : Nat} {q : Option Addr} {xs : List SV} (h : w.ownsRow B 25 1 (.slice q n c) n (xs.map svV)) (hn : n = xs.length) (hs : ∀ x ∈ xs, SlR w x.1 x.2.2) : SlS w q xs := by
  refine ⟨hs, ?_⟩
  have h' := h
  rcases h.2 with ⟨h1, h2⟩ | ⟨g, cap, cur, h1, hg, hh, _⟩
  · exact .inl (List.eq_nil_of_length_eq_zero (by omega))
  · simp only [Value.slice.injEq] at h1
    obtain ⟨rfl, _, rfl⟩ := h1
    refine .inr ⟨g, 0, rfl, fun i hi => ?_⟩
    rw [Nat.zero_add, h'.cellAt i (by omega), List.getElem?_map, List.getElem?_eq_getElem hi, gs_get hi]; rfl
theorem fin_rs : (Tryz.prog.info? 25).map (fun i => (i.zero, i.size, i.bytes)) = some (some (.slice none 0 0), 1, 24) := by kernel_rfl
theorem three_clo {F X A M O : List R} (hA : A = cn X) (hM : M = cn (pts (toks F A))) (hO : O = cn (pts (fromsB F M))) (hr : ∀ f ∈ F, 0 ≤ f.2 ∧ f.2 ≤ 1114111) : cn (A ++ (M ++ O)) = clo F X := by
  subst hA
  rw [← clo_cn]
  refine clo_of fun c => ?_
  have hMh : ∀ d, Has M d ↔ 0 ≤ d ∧ d ≤ 1114111 ∧ d ∈ toks F (cn X) := fun d => by rw [hM, cn_has, pts_has]
  have hfr : ∀ d, d ∈ fromsB F M ↔ d ∈ froms F (cn X) := fun d => by
    rw [mem_froms]
    unfold fromsB
    simp only [List.mem_map, List.mem_filter, hasB_iff]
    constructor
    · rintro ⟨f, ⟨h1, h2⟩, h3⟩
      exact ⟨f, h1, ((hMh _).1 h2).2.2, h3⟩
    · rintro ⟨f, h1, h2, h3⟩
      exact ⟨f, ⟨h1, (hMh _).2 ⟨(hr f h1).1, (hr f h1).2, h2⟩⟩, h3⟩
  have hOh : Has O c ↔ 0 ≤ c ∧ c ≤ 1114111 ∧ c ∈ froms F (cn X) := by rw [hO, cn_has, pts_has, hfr]
  rw [has_append, has_append, hMh, hOh]
  constructor
  · rintro (h | ⟨h1, h2, h3⟩ | ⟨h1, h2, h3⟩)
    · exact .inl h
    · exact .inr ⟨h1, h2, .inl h3⟩
    · exact .inr ⟨h1, h2, .inr h3⟩
  · rintro (h | ⟨h1, h2, h3 | h3⟩)
    · exact .inl h
    · exact .inr (.inl ⟨h1, h2, h3⟩)
    · exact .inr (.inr ⟨h1, h2, h3⟩)

set_option maxHeartbeats 6400000 in
set_option maxRecDepth 100000 in
theorem rclose_any (pf pp q : Option Addr) (cf cp cq n m k : Nat) (F : List R) (xs : List SV) (t : Bool) (w : World) (hn : n = F.length) (hp : SlR w pf F) (hx : SlS w q xs) (hk : k = xs.length) (hF : t = true → F.length ≤ 1200000) (hfl : (flat xs).length ≤ 1200000) (hkk : k ≤ 1200000)
    (hrange : t = true → ∀ f ∈ F, 0 ≤ f.2 ∧ f.2 ≤ 1114111)
    (HRT : ∀ W, Below w.heap.size w W → Calls Tryz.prog 18 #[.agg #[.slice pf n cf, .slice pp m cp]] W fun e w' => e = .returned (.bool t) ∧ Below W.heap.size W w') :
    Calls Tryz.prog 17 #[.agg #[.slice pf n cf, .slice pp m cp], .slice q k cq] w (WherePost (if t = true then clo F (flat xs) else cn (flat xs)) w) := by
  obtain ⟨i0, hinf, hz0, hz1, hz2⟩ := info_parts info_int
  have HP := Lib.hid hp
  have HX := Lib.hid hx
  have HN := Lib.hid hn
  have HK := Lib.hid hk
  have HFL := Lib.hid (And.intro hF hfl)
  have HRG := Lib.hid hrange
  have HR := Lib.hid HRT
  have HKK := Lib.hid hkk
  obtain ⟨S, hS⟩ : ∃ S, S = if t = true then clo F (flat xs) else cn (flat xs) := ⟨_, rfl⟩
  rw [← hS]
  have HS := Lib.hid hS
  clear hn hp hx hk hF hfl hkk hrange HRT hS
  go_enter Tryz.func17, Tryz.ntmps17
  go_wp2_with fail
  obtain ⟨w0, hw0⟩ : ∃ w0, w0 = w.alloc (.cells #[.slice pf n cf, .slice pp m cp] 30) := ⟨_, rfl⟩
  have hb0 : w0.cell? ⟨w.heap.size, 0, none⟩ = some (.slice pf n cf) := by rw [hw0, World.cell?_alloc_at _ _ _ _ rfl]; rfl
  have hb1 : w0.cell? ⟨w.heap.size, 1, none⟩ = some (.slice pp m cp) := by rw [hw0, World.cell?_alloc_at _ _ _ _ rfl]; rfl
  have K0 : Hid (Below w.heap.size w w0) := by rw [hw0]; exact bl_alloc _ _
  rw [← hw0]
  obtain ⟨A, hA⟩ : ∃ A, A = cn (flat xs) := ⟨_, rfl⟩
  have HA := Lib.hid hA
  have HAL : Hid (A.length ≤ 1200000) := by show _ ≤ _; rw [hA]; exact Nat.le_trans (cn_length _) HFL.out.2
  refine (rjoin_any q cq k xs A w0 hA HK.out (HX.out.below K0.out) (by have := HFL.out; omega) (by have := HKK.out; omega)).mono ?_
  rintro e w1 ⟨qa, ca, rfl, ho, hb⟩
  have SA := Lib.hid (tells_sl ho)
  have HOA := Lib.hid (ownR_mono ho (K0.out.size))
  have K := Lib.hid (bl_trans K0.out hb)
  replace hb0 := keep_cell hb hb0
  replace hb1 := keep_cell hb hb1
  clear ho hb hA hw0 K0
  go_wp2_with fail
  refine (HR.out w1 K.out).mono ?_
  rintro e w2 ⟨rfl, hb⟩
  replace SA := Lib.hid (SA.out.below hb)
  replace HOA := Lib.hid (ownR_below HOA.out hb)
  replace K := Lib.hid (bl_trans K.out hb)
  replace hb0 := keep_cell hb hb0
  clear hb hb1
  cases t with
  | false =>
    go_wp2
    go_ret
    have hSA : S = A := by rw [HS.out, if_neg (by decide), HA.out]
    subst hSA
    exact ⟨qa, ca, rfl, HOA.out, K.out⟩
  | true =>
    have HFLn : Hid (F.length ≤ 1200000 ∧ (flat xs).length ≤ 1200000) := ⟨HFL.out.1 rfl, HFL.out.2⟩
    clear HFL
    have HFL := HFLn
    clear HFLn
    have hnI : (n : Int) ≤ 1200000 := by have := HFL.out.1; have := HN.out; omega
    generalize hbt : w.heap.size = bt at hb0 ⊢
    have HBT := Lib.hid hbt
    clear hbt
    go_wp2
    go_loopw [6, 7] (fun rv iv wr => ∃ (i no d : Nat) (qr : Option Addr) (L : List Int), i ≤ n ∧ rv = .slice qr no d ∧ iv = .int .i64 (i : Nat) ∧ Hid (no = L.length) ∧ Hid (no ≤ i) ∧ Hid (L = toks (F.take i) A) ∧ Hid (OwnI wr w2.heap.size (.slice qr no d) L) ∧ Hid (Below w2.heap.size w2 wr)) (fun _ iv _ => n - (intOf iv).toNat)
    case atStart => exact ⟨0, 0, 0, none, [], Nat.zero_le _, rfl, rfl, rfl, Nat.le_refl _, (by show _ = _; simp [toks]), ownI_nil _ _, Below.refl _ _⟩
    case round =>
      obtain ⟨i, no, d, qr, L, hi, rfl, rfl, HNO, HLE, HL, HOW, HB⟩ := hrel
      rename World => wr
      by_cases hin : i < n
      · have hiI : (i : Int) < n := by omega
        have hiF : i < F.length := by have := HN.out; omega
        obtain ⟨bf, of, rfl, hf1, hf2⟩ := slr_at ((HP.out.below K.out).below HB.out) hiF
        have hb0r := keep_cell HB.out hb0
        have HST := Lib.hid (toks_step F A hiF)
        obtain ⟨x, hx⟩ : ∃ x, x = (gr F i).1 := ⟨_, rfl⟩
        obtain ⟨y, hy⟩ : ∃ x, x = (gr F i).2 := ⟨_, rfl⟩
        rw [← hx] at hf1 HST
        rw [← hy] at hf2 HST
        obtain ⟨tx, htx⟩ : ∃ t, t = hasB A x := ⟨_, rfl⟩
        obtain ⟨ty, hty⟩ : ∃ t, t = hasB A y := ⟨_, rfl⟩
        rw [← htx, ← hty] at HST
        have HTX := Lib.hid htx
        have HTY := Lib.hid hty
        have HI := Lib.hid hin
        have SAr := Lib.hid (SA.out.below HB.out)
        have HN2 := Lib.hid (show no ≤ 1200000 by have := HLE.out; omega)
        clear hx hy htx hty hiF hin hi
        go_wp2_with fail
        obtain ⟨wf, hwf⟩ : ∃ wf, wf = wr.alloc (.cells #[.int .i64 x, .int .i64 y] 33) := ⟨_, rfl⟩
        have hy1 : wf.cell? ⟨wr.heap.size, 1, none⟩ = some (.int .i64 y) := by rw [hwf, World.cell?_alloc_at _ _ _ _ rfl]; rfl
        have hbf : Below wr.heap.size wr wf := by rw [hwf]; exact bl_alloc _ _
        rw [← hwf]
        have hb0f := keep_cell hbf hb0r
        have SAf := Lib.hid (SAr.out.below hbf)
        have HOWf := Lib.hid (ownI_below HOW.out hbf)
        have HBf := Lib.hid (bl_trans HB.out hbf)
        clear hwf hbf hf1 hf2 hb0r
        generalize wr.heap.size = fb at hy1 ⊢
        refine (rhas_any qa ca A.length A x wf rfl SAf.out (by have := HAL.out; omega)).mono ?_
        rintro e w5 ⟨rfl, rfl⟩
        rw [← HTX.out]
        cases tx with
        | true =>
          have hrow := ownI_row HOWf.out HNO.out
          have HRO := Lib.hid hrow
          have HWS := Lib.hid HBf.out.size
          clear hrow
          go_wp2_with (at_builtin; refine wpList_append_own _ rfl _ _ 22 rfl w2.heap.size 3 i0 (.int .i64 0) 1 8 Tryz.underlying22 hinf hz0 hz1 hz2 rfl (by decide) (.slice qr no d) no _ rfl (HRO.out.alloc _) ⟨wf.heap.size, 0, none⟩ 1 1 [.int .i64 y] rfl rfl (cells_one_new _ _ _) (by simp [Value.oneCell']) (by have := HN2.out; simp only [maxLen]; omega) (by have := HN2.out; omega) (by have := HWS.out; simp; omega) ?_)
          intro v5 w5 hown5 hgrow5 _
          have hO5 : OwnI w5 w2.heap.size v5 (L ++ [y]) := ownI_appended HNO.out.symm hown5
          have hb5 : Below w2.heap.size w2 w5 := (HBf.out.alloc HBf.out.size _).grown hgrow5 (by have := HWS.out; simp; omega) (fun k hk => (HRO.out.lt k hk).1)
          obtain ⟨q5, d5, n5, HK5, rfl, HO5⟩ := ownI_open hO5
          have HB5 := Lib.hid hb5
          have HN5 : Hid (n5 ≤ i + 1) := by show _ ≤ _; rw [HK5.out, List.length_append, ← HNO.out]; have := HLE.out; simp only [List.length_cons, List.length_nil]; omega
          have HL5 : Hid (L ++ [y] = toks (F.take (i + 1)) A) := by show _ = _; rw [HST.out, HL.out]; simp
          clear hown5 hgrow5 hO5 hb5
          go_wp2
          go_roundw
          case rel => exact ⟨i + 1, n5, d5, q5, _, by have := HI.out; omega, rfl, by go_num, HK5.out, HN5.out, HL5.out, HO5.out, HB5.out⟩
          case measure => have := HI.out; simp [intOf]; omega
        | false =>
          go_wp2_with fail
          refine (rhas_any qa ca A.length A y wf rfl SAf.out (by have := HAL.out; omega)).mono ?_
          rintro e w5 ⟨rfl, rfl⟩
          rw [← HTY.out]
          cases ty with
          | true =>
            have hrow := ownI_row HOWf.out HNO.out
            have HRO := Lib.hid hrow
            have HWS := Lib.hid HBf.out.size
            clear hrow
            go_wp2_with (at_builtin; refine wpList_append_own _ rfl _ _ 22 rfl w2.heap.size 3 i0 (.int .i64 0) 1 8 Tryz.underlying22 hinf hz0 hz1 hz2 rfl (by decide) (.slice qr no d) no _ rfl (HRO.out.alloc _) ⟨wf.heap.size, 0, none⟩ 1 1 [.int .i64 y] rfl rfl (cells_one_new _ _ _) (by simp [Value.oneCell']) (by have := HN2.out; simp only [maxLen]; omega) (by have := HN2.out; omega) (by have := HWS.out; simp; omega) ?_)
            intro v5 w5 hown5 hgrow5 _
            have hO5 : OwnI w5 w2.heap.size v5 (L ++ [y]) := ownI_appended HNO.out.symm hown5
            have hb5 : Below w2.heap.size w2 w5 := (HBf.out.alloc HBf.out.size _).grown hgrow5 (by have := HWS.out; simp; omega) (fun k hk => (HRO.out.lt k hk).1)
            obtain ⟨q5, d5, n5, HK5, rfl, HO5⟩ := ownI_open hO5
            have HB5 := Lib.hid hb5
            have HN5 : Hid (n5 ≤ i + 1) := by show _ ≤ _; rw [HK5.out, List.length_append, ← HNO.out]; have := HLE.out; simp only [List.length_cons, List.length_nil]; omega
            have HL5 : Hid (L ++ [y] = toks (F.take (i + 1)) A) := by show _ = _; rw [HST.out, HL.out]; simp
            clear hown5 hgrow5 hO5 hb5
            go_wp2
            go_roundw
            case rel => exact ⟨i + 1, n5, d5, q5, _, by have := HI.out; omega, rfl, by go_num, HK5.out, HN5.out, HL5.out, HO5.out, HB5.out⟩
            case measure => have := HI.out; simp [intOf]; omega
          | false =>
            have HL5 : Hid (L = toks (F.take (i + 1)) A) := by show _ = _; rw [HST.out, HL.out]; simp
            go_wp2
            go_roundw
            case rel => exact ⟨i + 1, no, d, qr, L, by have := HI.out; omega, rfl, by go_num, HNO.out, by have := HLE.out; show _ ≤ _; omega, HL5.out, HOWf.out, HBf.out⟩
            case measure => have := HI.out; simp [intOf]; omega
      · have hiI : (n : Int) ≤ i := by omega
        have hb0r := keep_cell HB.out hb0
        have HLL : Hid (L = toks F A) := by show _ = _; rw [HL.out, List.take_of_length_le (by have := HN.out; omega)]
        have HN2 := Lib.hid (show no ≤ 1200000 by have := HLE.out; have := HFL.out; have := HN.out; omega)
        obtain ⟨M, hM⟩ : ∃ M, M = cn (pts L) := ⟨_, rfl⟩
        have HMM := Lib.hid hM
        clear hM hi hin
        go_wp2_with fail
        refine (rof_any qr d no L M wr HMM.out HNO.out (ownI_sl HOW.out HNO.out) (by have := HN2.out; have := HNO.out; omega)).mono ?_
        rintro e w3 ⟨qm, cm, rfl, ho, hb⟩
        have SM := Lib.hid (tells_sl ho)
        have K3 := Lib.hid (bl_trans HB.out hb)
        have hb_of := Lib.hid hb
        clear ho hb
        have HML : Hid (M.length ≤ 1200000) := by
          have h1 := cn_length (pts L)
          have h2 := HNO.out
          have h3 := HN2.out
          have h4 : (pts L).length = L.length := by simp [pts]
          show _ ≤ _
          rw [HMM.out]; omega
        replace hb0r := keep_cell hb_of.out hb0r
        have SA3 := Lib.hid ((SA.out.below HB.out).below hb_of.out)
        have HOA3 := Lib.hid (ownR_below (ownR_below HOA.out HB.out) hb_of.out)
        clear hb_of
        go_wp2
        obtain ⟨w4, hw4⟩ : ∃ w4, w4 = w3.alloc (.cells #[.slice qa A.length ca, .slice qm M.length cm] 25) := ⟨_, rfl⟩
        have hrow4 := row_two (w := w3) (.slice qa A.length ca) (.slice qm M.length cm)
        have hbw4 : Below w3.heap.size w3 w4 := by rw [hw4]; exact bl_alloc _ _
        rw [← hw4] at hrow4 ⊢
        have HW3 := Lib.hid (Nat.le_refl w3.heap.size)
        generalize w3.heap.size = ob at hrow4 HW3 ⊢
        have HROW := Lib.hid hrow4
        have hb0s := keep_cell hbw4 hb0r
        have SA4 := Lib.hid (SA3.out.below hbw4)
        have SM4 := Lib.hid (SM.out.below hbw4)
        have K4 := Lib.hid (bl_trans K3.out hbw4)
        clear hw4 hrow4 hbw4 hb0r
        go_loopw [11, 12] (fun rv iv wr => ∃ (i no d : Nat) (qr : Option Addr) (L : List Int), i ≤ n ∧ rv = .slice qr no d ∧ iv = .int .i64 (i : Nat) ∧ Hid (no = L.length) ∧ Hid (no ≤ i) ∧ Hid (L = fromsB (F.take i) M) ∧ Hid (OwnI wr w4.heap.size (.slice qr no d) L) ∧ Hid (Below w4.heap.size w4 wr)) (fun _ iv _ => n - (intOf iv).toNat)
        case atStart => exact ⟨0, 0, 0, none, [], Nat.zero_le _, rfl, rfl, rfl, Nat.le_refl _, (by show _ = _; simp [fromsB]), ownI_nil _ _, Below.refl _ _⟩
        case round =>
        obtain ⟨L0, hL0⟩ : ∃ L0, L0 = L := ⟨_, rfl⟩
        rw [← hL0] at HLL HMM
        have HLL0 := HLL
        clear HOW HNO HLE HL HB HLL HN2 hiI
        obtain ⟨i, no, d, qr, L, hi, rfl, rfl, HNO, HLE, HL, HOW, HB⟩ := hrel
        rename World => wr
        by_cases hin : i < n
        · have hiI : (i : Int) < n := by omega
          have hiF : i < F.length := by have := HN.out; omega
          obtain ⟨bf, of, rfl, hf1, hf2⟩ := slr_at (((HP.out.below K.out).below K4.out).below HB.out) hiF
          have hb0f := keep_cell HB.out hb0s
          have HST := Lib.hid (fromsB_step F M hiF)
          obtain ⟨x, hx⟩ : ∃ x, x = (gr F i).1 := ⟨_, rfl⟩
          obtain ⟨y, hy⟩ : ∃ x, x = (gr F i).2 := ⟨_, rfl⟩
          rw [← hx] at hf1 HST
          rw [← hy] at hf2 HST
          obtain ⟨ty, hty⟩ : ∃ t, t = hasB M y := ⟨_, rfl⟩
          rw [← hty] at HST
          have HTY := Lib.hid hty
          have HI := Lib.hid hin
          have SMr := Lib.hid (SM4.out.below HB.out)
          have HN2 := Lib.hid (show no ≤ 1200000 by have := HLE.out; have := HFL.out; have := HN.out; omega)
          have HOWf := HOW
          have HBf := HB
          clear hx hy hty hiF hin hi
          go_wp2_with fail
          refine (rhas_any qm cm M.length M y wr rfl SMr.out (by have := HML.out; omega)).mono ?_
          rintro e w5 ⟨rfl, rfl⟩
          rw [← HTY.out]
          cases ty with
          | true =>
            have hrow := ownI_row HOWf.out HNO.out
            have HRO := Lib.hid hrow
            have HWS := Lib.hid HBf.out.size
            clear hrow
            go_wp2_with (at_builtin; refine wpList_append_own _ rfl _ _ 22 rfl w4.heap.size 3 i0 (.int .i64 0) 1 8 Tryz.underlying22 hinf hz0 hz1 hz2 rfl (by decide) (.slice qr no d) no _ rfl (HRO.out.alloc _) ⟨wr.heap.size, 0, none⟩ 1 1 [.int .i64 x] rfl rfl (cells_one_new _ _ _) (by simp [Value.oneCell']) (by have := HN2.out; simp only [maxLen]; omega) (by have := HN2.out; omega) (by have := HWS.out; simp; omega) ?_)
            intro v5 w5 hown5 hgrow5 _
            have hO5 : OwnI w5 w4.heap.size v5 (L ++ [x]) := ownI_appended HNO.out.symm hown5
            have hb5 : Below w4.heap.size w4 w5 := (HBf.out.alloc HBf.out.size _).grown hgrow5 (by have := HWS.out; simp; omega) (fun k hk => (HRO.out.lt k hk).1)
            obtain ⟨q5, d5, n5, HK5, rfl, HO5⟩ := ownI_open hO5
            have HB5 := Lib.hid hb5
            have HN5 : Hid (n5 ≤ i + 1) := by show _ ≤ _; rw [HK5.out, List.length_append, ← HNO.out]; have := HLE.out; simp only [List.length_cons, List.length_nil]; omega
            have HL5 : Hid (L ++ [x] = fromsB (F.take (i + 1)) M) := by show _ = _; rw [HST.out, HL.out]; simp
            clear hown5 hgrow5 hO5 hb5
            go_wp2
            go_roundw
            case rel => exact ⟨i + 1, n5, d5, q5, _, by have := HI.out; omega, rfl, by go_num, HK5.out, HN5.out, HL5.out, HO5.out, HB5.out⟩
            case measure => have := HI.out; simp [intOf]; omega
          | false =>
            have HL5 : Hid (L = fromsB (F.take (i + 1)) M) := by show _ = _; rw [HST.out, HL.out]; simp
            go_wp2
            go_roundw
            case rel => exact ⟨i + 1, no, d, qr, L, by have := HI.out; omega, rfl, by go_num, HNO.out, by have := HLE.out; show _ ≤ _; omega, HL5.out, HOWf.out, HBf.out⟩
            case measure => have := HI.out; simp [intOf]; omega
        · have hiI : (n : Int) ≤ i := by omega
          have hb0f := keep_cell HB.out hb0s
          have HLL : Hid (L = fromsB F M) := by show _ = _; rw [HL.out, List.take_of_length_le (by have := HN.out; omega)]
          have HN2 := Lib.hid (show no ≤ 1200000 by have := HLE.out; have := HFL.out; have := HN.out; omega)
          obtain ⟨O, hO⟩ : ∃ O, O = cn (pts L) := ⟨_, rfl⟩
          have HOO := Lib.hid hO
          clear hO hi hin
          go_wp2_with fail
          refine (rof_any qr d no L O wr HOO.out HNO.out (ownI_sl HOW.out HNO.out) (by have := HN2.out; have := HNO.out; omega)).mono ?_
          rintro e w6 ⟨qo, co, rfl, ho, hb⟩
          obtain ⟨i1, hinf1, hy0, hy1, hy2⟩ := finfo_parts fin_rs
          have hbl := bl_alloc w6 (.cells #[.slice qo O.length co] 25)
          have hrow6 := row_below (row_below (row_below HROW.out HB.out) hb) hbl
          have SA6 := (((SA4.out.below HB.out).below hb).below hbl)
          have SM6 := (((SM4.out.below HB.out).below hb).below hbl)
          have SO6 := ((tells_sl ho).below hbl)
          have hK6 := bl_trans (bl_trans (bl_trans K4.out HB.out) hb) hbl
          obtain ⟨v7, w7, hr1, hr2, hr3⟩ := run_append_arg_grows (P := Tryz.prog) (w6.alloc (.cells #[.slice qo O.length co] 25)) 26 26 25 i1 (.slice none 0 0) 1 24 Tryz.underlying26 hinf1 hy0 hy1 hy2 rfl (by decide) ⟨ob, 0, none⟩ 2 2 [.slice qa A.length ca, .slice qm M.length cm] rfl (hrow6.cells rfl) ⟨w6.heap.size, 0, none⟩ 1 1 [.slice qo O.length co] rfl (one_new w6 _ _) (by omega) (by decide) (by decide)
          obtain ⟨q7, c7, rfl⟩ : ∃ q c, v7 = .slice q 3 c := by
            rcases hr2.2 with ⟨_, h⟩ | ⟨g, cap, cur, h, _⟩
            · omega
            · exact ⟨_, _, h⟩
          have hb7 : Below (w6.alloc (.cells #[.slice qo O.length co] 25)).heap.size (w6.alloc (.cells #[.slice qo O.length co] 25)) w7 := (Below.refl _ _).grown hr3 (Nat.le_refl _) (by simp)
          have HSLS : Hid (SlS w7 q7 [(qa, ca, A), (qm, cm, M), (qo, co, O)]) := sls_row hr2 rfl (fun x hx => by
            simp only [List.mem_cons, List.not_mem_nil, or_false] at hx
            rcases hx with rfl | rfl | rfl
            · exact SA6.below hb7
            · exact SM6.below hb7
            · exact SO6.below hb7)
          have HRUN := Lib.hid hr1
          have K7 := Lib.hid (bl_trans hK6 hb7)
          have HOL : Hid (O.length ≤ 1200000) := by
            have h1 := cn_length (pts L)
            have h2 := HNO.out
            have h3 := HN2.out
            have h4 : (pts L).length = L.length := by simp [pts]
            show _ ≤ _
            rw [HOO.out]; omega
          have HCL : Hid (S = cn (flat [(qa, ca, A), (qm, cm, M), (qo, co, O)])) := by
            show S = _
            have ef : flat [(qa, ca, A), (qm, cm, M), (qo, co, O)] = A ++ (M ++ O) := by simp [flat]
            rw [ef, HS.out]
            simp only [if_true]
            exact (three_clo HA.out (by rw [HMM.out, HLL0.out]) (by rw [HOO.out, HLL.out]) (HRG.out (by first | rfl | trivial))).symm
          clear ho hb hbl hrow6 SA6 SM6 SO6 hK6 hr1 hr2 hr3 hb7
          go_wp2_with (at_builtin; refine wpList_append_run (by rfl) _ _ 26 rfl _ _ _ rfl rfl HRUN.out ?_)
          refine (rjoin_any q7 c7 3 [(qa, ca, A), (qm, cm, M), (qo, co, O)] S w7 HCL.out rfl HSLS.out (by have h1 := HAL.out; have h2 := HML.out; have h3 := HOL.out; simp only [flat, List.flatMap_cons, List.flatMap_nil, List.length_append, List.length_nil]; omega) (by omega)).mono ?_
          rintro e w8 ⟨q8, c8, rfl, ho, hb⟩
          have HO8 := Lib.hid ho
          have HB8 := Lib.hid hb
          clear ho hb
          go_wp2
          go_ret
          exact ⟨q8, c8, rfl, ownR_mono HO8.out (by have := K.out.size; have := K7.out.size; omega), bl_trans K.out (bl_trans K7.out HB8.out)⟩
end Go.Proofs.YtglgfpapackcdaaGreat

