/- The document's Text. -/
/- A list of numbers of the call's own, whose digits lie apart. -/
import Derived.Test.YtcahnkocfbcchaaGreatDoorNxq
import Derived.Laws.BytesArg
import Derived.Test.YtcahnkocfbcchaaGreatDoorNxi

namespace Go.Proofs.YtcahnkocfbcchaaGreatDoor
open Go.RowKit Tnd

theorem u8_of' (b : Nat) (h : b < 256) : (UInt8.ofNat b).toNat = b := by rw [UInt8.toNat_ofNat']; omega
/-- the digits, the top one first, are the number's. -/
theorem dec_row : ∀ (N : List Nat), Digs 10 N → RightL N → N ≠ [] → Lib.decDigits (nv 10 N) = (N.reverse.map fun d => UInt8.ofNat (48 + d)) := by
  intro N
  induction N with
  | nil => intro _ _ h; exact absurd rfl h
  | cons x t ih =>
    intro hd hr _
    have hx : x < 10 := hd x (List.mem_cons_self ..)
    have hdt : Digs 10 t := fun y hy => hd y (List.mem_cons_of_mem _ hy)
    by_cases ht : t = []
    · subst ht
      rw [show nv 10 [x] = x by simp [nv], dec_small hx]
      rfl
    · have hrt := right_tail hr
      have h1 := right_ge 10 t hrt ht
      have h2 : 1 ≤ nv 10 t := Nat.le_trans (Nat.pow_pos (by omega)) h1
      have e : nv 10 (x :: t) = x + 10 * nv 10 t := rfl
      rw [dec_big (by omega : ¬ nv 10 (x :: t) < 10), e, show (x + 10 * nv 10 t) / 10 = nv 10 t by omega, show (x + 10 * nv 10 t) % 10 = x by omega, ih hdt hrt ht, List.reverse_cons, List.map_append]
      rfl
/-- the text of bytes of a call's own. -/
theorem back_text {w : World} {B : Nat} {q : Option Addr} {cq : Nat} {M : List Nat} (h : Own w B 5 .u8 (.slice q M.length cq) M) (hb : ∀ b ∈ M, b < 256) :
    (convert 58 9 (.slice q M.length cq)).run Tryz.prog w = .ok (.string ⟨(M.map UInt8.ofNat).toArray⟩) w := by
  obtain ⟨p', c', e, hlc, _, hnil, hs, hob⟩ := own_form h
  simp only [Value.slice.injEq, true_and] at e
  obtain ⟨rfl, rfl⟩ := e
  rcases hs with h0 | ⟨b, off, rfl, hc⟩
  · subst h0
    cases q with
    | none => exact run_convert_bytes_nil w 58 5 Tryz.underlying58 Tryz.underlying5 0 cq 9 Tryz.underlying9
    | some a => exact run_convert_bytes_back (P := Tryz.prog) w 58 9 5 a cq [] Tryz.underlying58 Tryz.underlying5 Tryz.underlying9 (fun j hj => absurd hj (by simp))
  · have hl : (M.map UInt8.ofNat).length = M.length := by simp
    have := run_convert_bytes_back (P := Tryz.prog) w 58 9 5 ⟨b, off, none⟩ cq (M.map UInt8.ofNat) Tryz.underlying58 Tryz.underlying5 Tryz.underlying9 (fun j hj => by
      have hj' : j < M.length := by rw [hl] at hj; exact hj
      have e1 := hc j hj'
      have e2 : (⟨b, off, none⟩ : Addr).add j = ⟨b, off + j, none⟩ := by simp [Addr.add]
      rw [e2, e1]
      have e3 : gd M j = M[j] := by unfold gd; rw [List.getD_eq_getElem?_getD, List.getElem?_eq_getElem hj']; rfl
      rw [e3, List.getElem_map, u8_of' _ (hb _ (List.getElem_mem hj'))])
    rw [hl] at this
    exact this

theorem drop_rev {N : List Nat} {i : Nat} (hi : i < N.length) : (N.drop i).reverse.map (fun d => 48 + d) = (N.drop (i + 1)).reverse.map (fun d => 48 + d) ++ [48 + gd N i] := by
  have : gd N i = N[i] := by unfold gd; rw [getD_at hi]
  rw [List.drop_eq_getElem_cons hi, List.reverse_cons, List.map_append, this]
  rfl
set_option maxHeartbeats 1600000 in
set_option maxRecDepth 100000 in
theorem rtext_any (p : Option Addr) (c : Nat) (l : List Nat) (w : World) (hs : Sl w .u32 p l) (hd : Digs 4294967296 l) (hl : l.length ≤ 1000000) :
    Calls Tryz.prog 17 #[.agg #[.slice p l.length c]] w fun e w' => e = .returned (.string ⟨(Lib.decDigits (nv 4294967296 l)).toArray⟩) ∧ Below w.heap.size w w' := by
  obtain ⟨i0, hi, hz0, hz1, hz2⟩ := info_parts info_u8
  obtain ⟨W1, hW1⟩ : ∃ W, W = w.alloc (.cells #[.slice p l.length c] 24) := ⟨_, rfl⟩
  have g1 : Below w.heap.size w W1 := by rw [hW1]; exact bl_al _ _
  have hc1 : W1.cell? ⟨w.heap.size, 0, none⟩ = some (.slice p l.length c) := by rw [hW1, World.cell?_alloc_at _ _ _ _ rfl]; rfl
  have HIN := Lib.hid (in_row p c l W1 (hs.bl g1) hd hl)
  have HW1 := Lib.hid hW1.symm
  have G1 := Lib.hid g1
  clear hW1 g1 hs hd hl
  go_enter Tryz.func17, Tryz.ntmps17
  go_upto_region 1 with fail
  rw [HW1.out]
  go_wp2_with fail
  refine HIN.out.mono ?_
  rintro e w2 ⟨q, qc, N, rfl, ⟨hs2, hdd, hr, hv, hNl⟩, hb2⟩
  have HS := Lib.hid hs2
  have HD := Lib.hid hdd
  have HR := Lib.hid hr
  have HV := Lib.hid hv
  have G2 := Lib.hid (bl_tr G1.out hb2)
  clear hs2 hdd hr hv hb2 HIN
  by_cases hN : N = []
  · subst hN
    have HE : Hid (Lib.decDigits (nv 4294967296 l) = [48]) := by
      show _ = _
      rw [← HV.out, show nv 10 [] = 0 from rfl, dec_small (by omega)]
      rfl
    simp only [List.length_nil]
    go_wp2
    go_ret
    refine ⟨?_, G2.out⟩
    rw [HE.out]
    rfl
  · have hlpos : 0 < N.length := Nat.pos_of_ne_zero (fun e => hN (List.eq_nil_of_length_eq_zero e))
    have hne : (((N.length : Nat) : Int) == 0) = false := by rw [beq_eq_false_iff_ne]; omega
    have HE : Hid (Lib.decDigits (nv 4294967296 l) = (N.reverse.map fun d => UInt8.ofNat (48 + d))) := by
      show _ = _
      rw [← HV.out]
      exact dec_row N HD.out HR.out hN
    clear hN HV HR
    go_wp2
    go_loopw [4, 5] (fun v iv wr => ∃ (j : Int) (M : List Nat) (q2 : Option Addr) (c2 : Nat), -1 ≤ j ∧ j < N.length ∧ iv = .int .i64 j ∧ v = .slice q2 M.length c2 ∧ Hid (M = (N.drop (j + 1).toNat).reverse.map (fun d => 48 + d)) ∧ Hid (Own wr w2.heap.size 5 .u8 (.slice q2 M.length c2) M) ∧ Hid (Below w2.heap.size w2 wr)) (fun _ i _ => (intOf i + 1).toNat)
    case atStart =>
      refine ⟨(N.length : Int) - 1, [], none, 0, by omega, by omega, rfl, rfl, ?_, own_nil _ _ _ _, Below.refl _ _⟩
      show [] = _
      rw [show ((N.length : Int) - 1 + 1).toNat = N.length by omega, List.drop_length]
      rfl
    case round =>
      obtain ⟨j, M, q2, c2, hj1, hj2, rfl, rfl, HM, HO, HB2⟩ := hrel
      rename World => wr
      by_cases hj : 0 ≤ j
      · obtain ⟨k, rfl⟩ : ∃ k : Nat, j = k := ⟨j.toNat, by omega⟩
        have hk : k < N.length := by omega
        obtain ⟨b, off, rfl, hck⟩ : ∃ b off, q = some ⟨b, off, none⟩ ∧ wr.cell? ⟨b, off + k, none⟩ = some (.int .u8 (gd N k : Nat)) := by
          rcases HS.out with h | ⟨b, off, h1, h2⟩
          · subst h; simp at hk
          · have h3 := h2 k hk
            exact ⟨b, off, h1, by rw [HB2.out.cell (World.block_lt_of_cell? w2 _ h3)]; exact h3⟩
        have hx9 : gd N k < 10 := gd_lt HD.out (by omega) k
        have hMM : M ++ [48 + gd N k] = (N.drop ((k : Int) - 1 + 1).toNat).reverse.map (fun d => 48 + d) := by
          rw [show ((k : Int) - 1 + 1).toNat = k by omega, drop_rev hk, HM.out, show ((k : Int) + 1).toNat = k + 1 by omega]
        have HMM := Lib.hid hMM
        have HML : Hid (M.length ≤ 1000000000000) := by
          show _ ≤ _
          rw [HM.out]
          simp only [List.length_map, List.length_reverse, List.length_drop]
          omega
        have ho3 := HO.out
        unfold Own at ho3
        have HO4 := Lib.hid ho3
        clear hMM ho3
        generalize gd N k = x at *
        have m1 : (x : Int) < 10 := by omega
        go_wp2_with (at_builtin; refine wpList_append_own _ rfl _ _ 58 rfl w2.heap.size 5 i0 (.int .u8 0) 1 1 Tryz.underlying58 hi hz0 hz1 hz2 rfl (by decide) (.slice q2 M.length c2) M.length _ rfl (HO4.out.alloc _) ⟨wr.heap.size, 0, none⟩ 1 1 [.int .u8 (48 + (x : Int))] rfl rfl ?c1 ?c2 ?c3 ?c4 ?c5 ?_)
        case c1 => exact cell_one_new _ _ _
        case c2 => simp [Value.oneCell']
        case c3 => have := HML.out; simp only [maxLen]; omega
        case c4 => have := HML.out; omega
        case c5 => have := HB2.out.size; simp; omega
        intro v' w5 hown5 hgrow5 _
        rw [show (48 : Int) + (x : Int) = ((48 + x : Nat) : Int) by omega] at hown5
        have hO5 := own_appended rfl hown5
        obtain ⟨p', c', hs'⟩ : ∃ p' c', v' = .slice p' (M ++ [48 + x]).length c' := by
          obtain ⟨p', c', hs', _⟩ := own_form hO5
          exact ⟨p', c', hs'⟩
        rw [hs'] at hO5 ⊢
        have hb6 : Below w2.heap.size w2 w5 := ((HB2.out.alloc HB2.out.size _).grown hgrow5 (by have := HB2.out.size; simp; omega) (fun k hk => (HO4.out.lt k hk).1))
        have HO5 := Lib.hid hO5
        have HB6 := Lib.hid hb6
        clear hs' hown5 hgrow5 hO5 hb6
        generalize M ++ [48 + x] = M2 at *
        go_wp2
        go_roundw
        case rel => exact ⟨(k : Int) - 1, M2, p', c', by omega, by omega, by go_num, rfl, HMM, HO5, HB6⟩
        case measure => simp [intOf]
      · obtain rfl : j = -1 := by omega
        have hMM : M = N.reverse.map (fun d => 48 + d) := HM.out
        have hby : ∀ b ∈ M, b < 256 := by
          rw [hMM]
          intro b hb
          obtain ⟨d, hd, rfl⟩ := List.mem_map.1 hb
          have := HD.out d (List.mem_reverse.1 hd)
          omega
        have hcv := back_text HO.out hby
        have HRES : Hid (Lib.decDigits (nv 4294967296 l) = M.map UInt8.ofNat) := by
          show _ = _
          rw [HE.out, hMM, List.map_map]
          rfl
        clear hMM hby
        go_wp2
        go_ret
        refine ⟨?_, bl_tr G2.out HB2.out⟩
        rw [HRES.out]
        rfl
end Go.Proofs.YtcahnkocfbcchaaGreatDoor


namespace Go.Proofs.YtcahnkocfbcchaaGreatDoor
open Go.RowKit Tnd

theorem dg_map {ds : List D} {k : Nat} (h : k < ds.length) : (ds.map D.val).toArray[k]? = some (dg ds k).val := by
  unfold dg
  rw [List.getElem?_toArray, List.getElem?_map, List.getD_eq_getElem?_getD, List.getElem?_eq_getElem h]
  rfl
theorem inD_lt {ds : List D} {w : World} {b : Nat} (h : InD ds b) (hr : ∀ k, k < ds.length → Room w 1 (dg ds k)) : b < w.heap.size := by
  obtain ⟨k, hk, e⟩ := h
  exact (hr k hk).lt b e
/-- a list of rows of digits lies apart. -/
theorem apartL_any (ds : List D) (w : World) (h0 : 0 < ds.length) (hl : ds.length ≤ 100) (hr : ∀ k, k < ds.length → Room w 1 (dg ds k)) (hn : ∀ k, k < ds.length → (dg ds k).n ≤ 100000) (hd : Far ds) :
    Calls Tryz.prog 21 #[.slice (some ⟨w.heap.size + 1, 0, none⟩) 1 1] ((w.alloc (.cells (ds.map D.val).toArray 24)).alloc (.cells #[.slice (some ⟨w.heap.size, 0, none⟩) ds.length ds.length] 38)) fun e w' => e = .returned (.bool true) ∧ But (fun b => InD ds b ∨ b = w.heap.size) ((w.alloc (.cells (ds.map D.val).toArray 24)).alloc (.cells #[.slice (some ⟨w.heap.size, 0, none⟩) ds.length ds.length] 38)) w' := by
  obtain ⟨W1, hW1⟩ : ∃ W, W = w.alloc (.cells (ds.map D.val).toArray 24) := ⟨_, rfl⟩
  obtain ⟨W2, hW2⟩ : ∃ W, W = W1.alloc (.cells #[.slice (some ⟨w.heap.size, 0, none⟩) ds.length ds.length] 38) := ⟨_, rfl⟩
  have hs1 : W1.heap.size = w.heap.size + 1 := by rw [hW1]; simp
  have g1 : Below w.heap.size w W1 := by rw [hW1]; exact bl_alloc _ _
  have g2 : Below W1.heap.size W1 W2 := by rw [hW2]; exact bl_alloc _ _
  have g12 := bl_trans g1 g2
  have x1 : Bx W1 w.heap.size 24 (ds.map D.val).toArray := by rw [hW1]; exact Bx.new _ _ _
  have x2 : Bx W2 (w.heap.size + 1) 38 #[.slice (some ⟨w.heap.size, 0, none⟩) ds.length ds.length] := by rw [hW2, ← hs1]; exact Bx.new _ _ _
  have x12 := x1.below g2
  rw [← hW1, ← hW2]
  have hr7 : Room W2 1 ⟨some w.heap.size, ds.length, ds.length⟩ := by
    refine ⟨Nat.le_refl _, by show ds.length ≤ maxLen; simp only [maxLen]; omega, fun h => (nomatch h), fun b e => (by cases e; exact x12.lt), fun b e j hj => ?_⟩
    cases e
    have hj' : j < ds.length := by simpa using hj
    exact ⟨by rw [x12.cell (dg_map hj')]; rfl, x12.free j⟩
  have hin7 : ∀ b, InD [(⟨some w.heap.size, ds.length, ds.length⟩ : D)] b → b = w.heap.size := fun b ⟨k, hk, e⟩ => by
    match k, hk with
    | 0, _ => exact (Option.some.inj e).symm
  have hlt0 : ∀ b, InD ds b → b < w.heap.size := fun b h => inD_lt h hr
  obtain ⟨DS, hDS⟩ : ∃ DS : Nat → List D, DS = fun j => if j = 0 then ds else if j = 7 then [⟨some w.heap.size, ds.length, ds.length⟩] else [] := ⟨_, rfl⟩
  have d0 : DS 0 = ds := by rw [hDS]; rfl
  have d7 : DS 7 = [⟨some w.heap.size, ds.length, ds.length⟩] := by rw [hDS]; rfl
  have dn : ∀ j, j ≠ 0 → j ≠ 7 → DS j = [] := fun j a b => by rw [hDS]; simp only [if_neg a, if_neg b]
  have hin : ∀ j b, InD (DS j) b → (j = 0 ∧ InD ds b) ∨ (j = 7 ∧ b = w.heap.size) := fun j b h => by
    by_cases a : j = 0
    · subst a; rw [d0] at h; exact .inl ⟨rfl, h⟩
    · by_cases a' : j = 7
      · subst a'; rw [d7] at h; exact .inr ⟨rfl, hin7 b h⟩
      · rw [dn j a a'] at h
        obtain ⟨k, hk, _⟩ := h
        simp at hk
  obtain ⟨rs, hrs⟩ : ∃ rs : List NR, rs = [⟨⟨some w.heap.size, ds.length, ds.length⟩, ds⟩] := ⟨_, rfl⟩
  have hap : ApOk W2 rs DS := by
    refine ⟨fun j hj => ?_, fun k hk => ?_, fun k hk => ?_, fun j => ?_, fun j => ?_, fun j k hk => ?_, fun i j b hne' i1 i2 => ?_, fun j b h => ?_, fun r hr' => ?_⟩
    · obtain ⟨a, b, c⟩ := putsV_at rs (fun _ => [])
      by_cases j0 : j = 0
      · subst j0; rw [a, d0, hrs]; simp
      · by_cases j7 : j = 7
        · subst j7; rw [b, d7, hrs]; rfl
        · rw [c j j0 j7, dn j j0 j7]; rfl
    · rw [d0] at hk ⊢; exact (hr k hk).below g12
    · rw [d7] at hk ⊢
      match k, hk with
      | 0, _ => exact hr7
    · by_cases j0 : j = 0
      · subst j0; rw [d0]; exact hd
      · by_cases j7 : j = 7
        · subst j7; rw [d7]
          intro a b x ha hb _ _
          simp only [List.length_singleton] at ha hb
          omega
        · rw [dn j j0 j7]
          intro a b x ha hb _ _
          simp at ha
    · by_cases j0 : j = 0
      · subst j0; rw [d0]; omega
      · by_cases j7 : j = 7
        · subst j7; rw [d7]; simp
        · rw [dn j j0 j7]; simp
    · by_cases j0 : j = 0
      · subst j0; rw [d0] at hk ⊢; exact hn k hk
      · by_cases j7 : j = 7
        · subst j7; rw [d7] at hk ⊢
          match k, hk with
          | 0, _ => show ds.length ≤ 100000; omega
        · rw [dn j j0 j7] at hk; simp at hk
    · rcases hin i b i1 with ⟨rfl, u⟩ | ⟨rfl, u⟩ <;> rcases hin j b i2 with ⟨rfl, v⟩ | ⟨rfl, v⟩
      · exact hne' rfl
      · have := hlt0 b u; omega
      · have := hlt0 b v; omega
      · exact hne' rfl
    · have hs2 := g2.size
      rcases hin j b h with ⟨_, u⟩ | ⟨_, u⟩
      · have := hlt0 b u; omega
      · omega
    · rw [hrs] at hr'
      obtain rfl := List.mem_singleton.1 hr'
      refine ⟨rfl, .inr ⟨w.heap.size, 0, rfl, fun h => ?_, x12.lt, fun k hk => ?_⟩⟩
      · have := hlt0 _ h; omega
      · rw [Nat.zero_add]
        exact x12.cell (dg_map hk)
  have hq : SlQ W2 (some ⟨w.heap.size + 1, 0, none⟩) rs := fun k hk => by
    rw [hrs] at hk
    match k, hk with
    | 0, _ => exact ⟨_, 0, rfl, by rw [hrs]; exact x2.cell (i := 0) rfl⟩
  refine (apartNats_any (some ⟨w.heap.size + 1, 0, none⟩) 1 1 rs DS W2 (by rw [hrs]; rfl) hq hap (by omega)).mono ?_
  rintro e w' ⟨rfl, hb⟩
  refine ⟨rfl, hb.mono fun b ⟨j, _, h⟩ => ?_⟩
  rcases hin j b h with ⟨_, u⟩ | ⟨_, u⟩
  · exact .inl u
  · exact .inr u
/-- four numbers of the call's own, one made behind the other. -/
theorem apart4_any (p1 p2 p3 p4 : Option Addr) (n1 n2 n3 n4 c1 c2 c3 c4 B1 B2 B3 B4 m1 m2 m3 m4 : Nat) (w : World) (h1 : FNat w B1 (.agg #[.slice p1 n1 c1]) m1) (h2 : FNat w B2 (.agg #[.slice p2 n2 c2]) m2) (h3 : FNat w B3 (.agg #[.slice p3 n3 c3]) m3) (h4 : FNat w B4 (.agg #[.slice p4 n4 c4]) m4)
    (k1 : n1 ≤ 100000) (k2 : n2 ≤ 100000) (k3 : n3 ≤ 100000) (k4 : n4 ≤ 100000) (h12 : ∀ b, blk p1 = some b → blk p2 ≠ some b) (h13 : ∀ b, blk p1 = some b → blk p3 ≠ some b) (h14 : ∀ b, blk p1 = some b → blk p4 ≠ some b) (h23 : ∀ b, blk p2 = some b → blk p3 ≠ some b) (h24 : ∀ b, blk p2 = some b → blk p4 ≠ some b) (h34 : ∀ b, blk p3 = some b → blk p4 ≠ some b) :
    Calls Tryz.prog 21 #[.slice (some ⟨w.heap.size + 1, 0, none⟩) 1 1] ((w.alloc (.cells #[.slice p1 n1 c1, .slice p2 n2 c2, .slice p3 n3 c3, .slice p4 n4 c4] 24)).alloc (.cells #[.slice (some ⟨w.heap.size, 0, none⟩) 4 4] 38)) fun e w' => e = .returned (.bool true) ∧ But (fun b => (blk p1 = some b ∨ blk p2 = some b ∨ blk p3 = some b ∨ blk p4 = some b) ∨ b = w.heap.size) ((w.alloc (.cells #[.slice p1 n1 c1, .slice p2 n2 c2, .slice p3 n3 c3, .slice p4 n4 c4] 24)).alloc (.cells #[.slice (some ⟨w.heap.size, 0, none⟩) 4 4] 38)) w' := by
  obtain ⟨l1, _, o1⟩ := fnat_own h1
  obtain ⟨l2, _, o2⟩ := fnat_own h2
  obtain ⟨l3, _, o3⟩ := fnat_own h3
  obtain ⟨l4, _, o4⟩ := fnat_own h4
  obtain ⟨e1, r1, _⟩ := own_d o1
  obtain ⟨e2, r2, _⟩ := own_d o2
  obtain ⟨e3, r3, _⟩ := own_d o3
  obtain ⟨e4, r4, _⟩ := own_d o4
  have hfar : Far [⟨blk p1, n1, c1⟩, ⟨blk p2, n2, c2⟩, ⟨blk p3, n3, c3⟩, ⟨blk p4, n4, c4⟩] := by
    intro a b x ha hb ea eb
    match a, b, ha, hb with
    | 0, 0, _, _ => rfl
    | 1, 1, _, _ => rfl
    | 2, 2, _, _ => rfl
    | 3, 3, _, _ => rfl
    | 0, 1, _, _ => exact absurd eb (h12 x ea)
    | 1, 0, _, _ => exact absurd ea (h12 x eb)
    | 0, 2, _, _ => exact absurd eb (h13 x ea)
    | 2, 0, _, _ => exact absurd ea (h13 x eb)
    | 0, 3, _, _ => exact absurd eb (h14 x ea)
    | 3, 0, _, _ => exact absurd ea (h14 x eb)
    | 1, 2, _, _ => exact absurd eb (h23 x ea)
    | 2, 1, _, _ => exact absurd ea (h23 x eb)
    | 1, 3, _, _ => exact absurd eb (h24 x ea)
    | 3, 1, _, _ => exact absurd ea (h24 x eb)
    | 2, 3, _, _ => exact absurd eb (h34 x ea)
    | 3, 2, _, _ => exact absurd ea (h34 x eb)
  have h := apartL_any [⟨blk p1, n1, c1⟩, ⟨blk p2, n2, c2⟩, ⟨blk p3, n3, c3⟩, ⟨blk p4, n4, c4⟩] w (by show 0 < 4; omega) (by show 4 ≤ 100; omega) (fun k hk => by
    match k, hk with
    | 0, _ => exact r1
    | 1, _ => exact r2
    | 2, _ => exact r3
    | 3, _ => exact r4) (fun k hk => by
    match k, hk with
    | 0, _ => exact k1
    | 1, _ => exact k2
    | 2, _ => exact k3
    | 3, _ => exact k4) hfar
  rw [e1, e2, e3, e4]
  refine h.mono ?_
  rintro e w' ⟨rfl, hb⟩
  refine ⟨rfl, hb.mono fun b hh => ?_⟩
  rcases hh with ⟨k, hk, hh⟩ | hh
  · match k, hk with
    | 0, _ => exact .inl (.inl hh)
    | 1, _ => exact .inl (.inr (.inl hh))
    | 2, _ => exact .inl (.inr (.inr (.inl hh)))
    | 3, _ => exact .inl (.inr (.inr (.inr hh)))
  · exact .inr hh
end Go.Proofs.YtcahnkocfbcchaaGreatDoor

