/- The walks of FormatUint at base 10 and of Text. -/
/- The walk of Text: a number's decimal numeral. -/
import Derived.Test.YtcahnkocfbcchaaGreatDoorDec
import Derived.Test.YtcahnkocfbcchaaGreatDoorWk
import Derived.Lib.ItoaMem
import Derived.Lib.ItoaNum

namespace Go.Proofs.YtcahnkocfbcchaaGreatDoor
open Go.RowKit Tnd Go.Lib Go.Sort

theorem arr24 : Tryz.prog.arrayLen 151 = 24 := by kernel_rfl

theorem write_string (B b : Nat) (bs : List Value) (s : ByteArray) (w : World) (h : Lib.IsBuilder 68 5 B b bs w) (hlen : bs.length + s.size ≤ 140737488355328) (hBw : B ≤ w.heap.size) :
    Calls Tryz.prog 43 #[.pointer (some ⟨b, 0, none⟩), .string s] w fun e w' => e = .returned (.tuple #[.int .i64 s.size, .nilIface]) ∧ (Lib.BuilderAt 68 5 B b (.pointer (some ⟨b, 0, none⟩)) (bs ++ Lib.strCells s) w' ∧ Below B w w') :=
  Any.Builder_WriteString { Tryz.lays105 with } Tryz.Builder_Extra_105 B b bs s w h hlen hBw

set_option maxHeartbeats 3200000 in
set_option maxRecDepth 100000 in
theorem fmtu_in (u : Nat) (hu : u < 18446744073709551616) (w : World) (htab : Lib.TabIs Tryz.prog w "internal/strconv.uint64pow10" .u64 Lib.pow10Tab) :
    Calls Tryz.prog 72 #[.int .u64 (u : Nat), .int .i64 10] w fun e w' => e = .returned (.string ⟨(Lib.decDigits u).toArray⟩) ∧ Below w.heap.size w w' := by
  by_cases hs : u < 100
  · have HT := Lib.hid htab
    clear htab
    go_enter Tryz.func72, Tryz.ntmps72
    go_wp2_with fail
    refine (Tryz.internal_strconv_small u hs _).mono ?_
    rintro e w' ⟨rfl, hw⟩
    obtain rfl := hw.symm
    clear hw
    go_wp2
    go_ret
    exact ⟨rfl, Below.refl _ _⟩
  · have hu1 : 1 ≤ u := by omega
    have hnd20 : Lib.nDigits u ≤ 20 := by have := Lib.numDigits_eq u hu1 hu; split at this <;> omega
    have hH0 : Holds (fun (b : UInt8) => Value.int .u8 (b.toNat : Int)) (w.alloc (.cells Lib.zeros24 151)) w.heap.size 0 (Array.replicate (Lib.nDigits u) (0 : UInt8)) := by
      intro j hj
      rw [Array.size_replicate] at hj
      refine ⟨?_, World.frozen?_alloc_new _ _ _ _⟩
      rw [Nat.zero_add, World.cell?_alloc_new, Lib.zeros24_at j (by omega)]
      simp [getElem!_pos, hj]
    have hfmt := Tryz.internal_strconv_formatBase10 w.heap.size 0 24 u (Array.replicate (Lib.nDigits u) 0) (w.alloc (.cells Lib.zeros24 151)) hH0 (by rw [Array.size_replicate]; exact Lib.lt_pow_nDigits u) hu (by rw [Array.size_replicate]; omega)
    rw [Array.size_replicate] at hfmt
    have HH0 := Lib.hid hH0
    have HFMT := Lib.hid hfmt
    have HND := Lib.hid (Tryz.internal_strconv_numDigits u hu1 hu (w.alloc (.cells Lib.zeros24 151)) (Lib.tabIs_alloc htab _))
    clear hH0 hfmt htab
    have hnI : Lib.nDigits u ≤ 24 := by omega
    have hnp := Lib.nDigits_pos u
    go_enter Tryz.func72, Tryz.ntmps72
    have hsl : ∀ W, (Instr.sliceAt 151 (.pointer (some ⟨w.heap.size, 0, none⟩)) none (some (.int .i64 (Lib.nDigits u : Nat))) none).run Tryz.prog W = .ok (.slice (some ⟨w.heap.size, 0, none⟩) (Lib.nDigits u) 24) W := fun W => by
      rw [run_sliceAt_array_h W 151 ⟨w.heap.size, 0, none⟩ (by simp [Program.arrayLen, Program.elem, Tryz.underlying151]) .i64 (Lib.nDigits u : Nat) (by omega) (by rw [arr24]; omega)]
      go_simp
    go_wp2_with (first
      | (go_at_call 108; refine HND.out.mono ?_; rintro e w' ⟨rfl, rfl⟩))
    go_at_call 109
    refine HFMT.out.mono ?_
    rintro e w' ⟨rfl, k, v', dk, rfl, hF⟩
    have hcv : (convert 58 9 (.slice (some ⟨w.heap.size, 0, none⟩) (Lib.nDigits u) 24)).run Tryz.prog ((putRow (fun (b : UInt8) => Value.int .u8 (b.toNat : Int)) (w.alloc (.cells Lib.zeros24 151)) w.heap.size 0 dk).drewN k) = .ok (.string ⟨(Lib.decDigits u).toArray⟩) ((putRow (fun (b : UInt8) => Value.int .u8 (b.toNat : Int)) (w.alloc (.cells Lib.zeros24 151)) w.heap.size 0 dk).drewN k) := by
      have h := run_convert_bytes_back (P := Tryz.prog) ((putRow (fun (b : UInt8) => Value.int .u8 (b.toNat : Int)) (w.alloc (.cells Lib.zeros24 151)) w.heap.size 0 dk).drewN k) 58 9 5 ⟨w.heap.size, 0, none⟩ 24 (Lib.decDigits u) Tryz.underlying58 Tryz.underlying5 Tryz.underlying9 (fun j hj => by
        rw [Lib.row_is_numeral hF j hj, Lib.add_plain, World.cell?_drewN]
        exact cell?_putRow (fun (b : UInt8) => Value.int .u8 (b.toNat : Int)) _ w.heap.size 0 _ dk HH0.out (by rw [hF.size, Array.size_replicate]) j (by rw [hF.size]; rw [Lib.decDigits_length] at hj; exact hj))
      rw [Lib.decDigits_length] at h
      exact h
    go_wp2
    go_ret
    refine ⟨rfl, ?_⟩
    refine below_drewN ?_ _
    refine ((Below.refl _ w).alloc (Nat.le_refl _) (.cells Lib.zeros24 151)).trans ⟨rfl, rfl, rfl, by simp, fun j hj => ?_⟩
    show ((w.alloc _).heap.modify w.heap.size _)[j]? = _
    rw [Array.getElem?_modify, if_neg (by omega)]

theorem fmtu_any (u : Nat) (hu : u < 18446744073709551616) (w : World) (htab : Lib.TabIs Tryz.prog w "internal/strconv.uint64pow10" .u64 Lib.pow10Tab) :
    Calls Tryz.prog 41 #[.int .u64 (u : Nat), .int .i64 10] w fun e w' => e = .returned (.string ⟨(Lib.decDigits u).toArray⟩) ∧ Below w.heap.size w w' := by
  have H := Lib.hid (fmtu_in u hu w htab)
  clear htab
  go_enter Tryz.func41, Tryz.ntmps41
  go_wp2_with fail
  refine H.out.mono ?_
  rintro e w' ⟨rfl, hb⟩
  go_wp2
  go_ret
  exact ⟨rfl, hb⟩

/-- the numeral of the groups from place k on, the highest ahead. -/
def grp (N : List Nat) : List UInt8 := if N = [] then [] else Lib.decDigits (nv 1000000000 N)
theorem grp_top (d : Nat) : grp [d] = Lib.decDigits d := by simp [grp, nv]
theorem grp_cons (d : Nat) (N : List Nat) (hN : N ≠ []) (hv : 1 ≤ nv 1000000000 N) (hd : d < 1000000000) : grp (d :: N) = grp N ++ padDec 9 d := by
  unfold grp
  rw [if_neg (by simp), if_neg hN]
  have e : nv 1000000000 (d :: N) = nv 1000000000 N * 10 ^ (8 + 1) + d := by simp only [nv]; omega
  rw [e]
  exact dec_split 8 _ _ hv hd
theorem padDec_length (d : Nat) (hd : d < 1000000000) : (padDec 9 d).length = 9 := by
  unfold padDec
  rw [List.length_append, List.length_replicate, Lib.decDigits_length]
  have := nDigits_le 8 d hd
  omega
theorem drop_pos (N : List Nat) (k : Nat) (hr : RightL N) (hk : k < N.length) : 1 ≤ nv 1000000000 (N.drop k) := by
  have hr2 : RightL (N.drop k) := by
    unfold RightL at *
    rw [List.getLast?_drop, if_neg (by omega)]
    exact hr
  have h := right_ge 1000000000 (N.drop k) hr2 (by intro e; have := congrArg List.length e; simp at this; omega)
  have h2 : 0 < 1000000000 ^ ((N.drop k).length - 1) := Nat.pow_pos (by omega)
  omega
theorem grp_len9 (N : List Nat) (hd : Digs 1000000000 N) (hr : RightL N) : ∀ k, k ≤ N.length → (grp (N.drop k)).length ≤ 9 * (N.length - k) := by
  intro k
  obtain ⟨j, hj⟩ : ∃ j, j = N.length - k := ⟨_, rfl⟩
  induction j generalizing k with
  | zero => intro hk; rw [List.drop_eq_nil_of_le (by omega)]; simp [grp]
  | succ j ih =>
    intro hk
    have hk1 : k < N.length := by omega
    have e : N.drop k = gd N k :: N.drop (k + 1) := by unfold gd; rw [getD_at hk1]; exact List.drop_eq_getElem_cons hk1
    have hg : gd N k < 1000000000 := gd_lt hd (by omega) k
    have h := ih (k + 1) (by omega) (by omega)
    rw [e]
    by_cases hn : N.drop (k + 1) = []
    · rw [hn, grp_top, Lib.decDigits_length]
      have := nDigits_le 8 (gd N k) hg
      omega
    · have hk2 : k + 1 < N.length := by
        by_cases h2 : k + 1 < N.length
        · exact h2
        · exact absurd (List.drop_eq_nil_of_le (by omega)) hn
      rw [grp_cons _ _ hn (drop_pos N (k + 1) hr hk2) hg, List.length_append, padDec_length _ hg]
      omega
end Go.Proofs.YtcahnkocfbcchaaGreatDoor


namespace Go.Proofs.YtcahnkocfbcchaaGreatDoor
open Go.RowKit Tnd Go.Lib

theorem tabIs_below {P : Program} {w w' : World} {name : String} {k : IntKind} {zs : List Int} (h : TabIs P w name k zs) (hb : Below w.heap.size w w') : TabIs P w' name k zs := by
  unfold TabIs World.var? at *
  cases hg : P.globalNamed name with
  | none => simp [hg] at h
  | some g =>
    simp only [hg, Option.bind_some] at h ⊢
    have hlt : g < w.heap.size := by
      rcases Nat.lt_or_ge g w.heap.size with h' | h'
      · exact h'
      · rw [Array.getElem?_eq_none h'] at h; simp at h
    rw [hb.block g hlt]
    exact h
theorem repeat0 (c : Nat) : Lib.repeatL [48] c = List.replicate c 48 := by
  induction c with
  | zero => rfl
  | succ c ih => rw [Lib.repeatL, ih, List.replicate_succ]; rfl
theorem byteCells_app (a b : List UInt8) : Lib.byteCells (a ++ b) = Lib.byteCells a ++ Lib.byteCells b := by simp [Lib.byteCells]

set_option maxHeartbeats 1600000 in
set_option maxRecDepth 100000 in
theorem text_any (v : Value) (l : List Nat) (w : World) (hin : NatIn w w.heap.size v l) (hl : l.length ≤ 1000000) (htab : Lib.TabIs Tryz.prog w "internal/strconv.uint64pow10" .u64 Lib.pow10Tab) :
    Calls Tryz.prog 16 #[v] w fun e w' => e = .returned (.string ⟨(Lib.decDigits (nv 4294967296 l)).toArray⟩) ∧ Below w.heap.size w w' := by
  obtain ⟨p, c, rfl, ho, hd, hlc, hcm, hnil⟩ := hin
  obtain ⟨w0, hw0⟩ : ∃ w0, w0 = w.alloc (.cells #[.slice p l.length c] 24) := ⟨_, rfl⟩
  have hB0 : Below w.heap.size w w0 := by subst hw0; exact (Below.refl _ _).alloc (Nat.le_refl _) _
  have HROW := Lib.hid (row_exact p l c w0 (ho.below hB0).sl hlc hcm hnil)
  obtain ⟨w1, hw1⟩ : ∃ w1, w1 = w0.alloc (.cells #[.slice p l.length c] 24) := ⟨_, rfl⟩
  have hB1 : Below w.heap.size w w1 := by subst hw1; exact hB0.alloc hB0.size _
  have hlt : (l.take (tlen l)).length = tlen l := by rw [List.length_take]; have := tlen_le l; omega
  have htl := tlen_le l
  have htu := turned_any p c (l.take (tlen l)) 4294967296 1000000000 w1 ((ho.below hB1).take _).sl (digs_take hd _) (by omega) (by omega) (by omega) (by omega) (by omega)
  rw [hlt, nv_tlen] at htu
  have HTU := Lib.hid htu
  have HW0 := Lib.hid hw0
  have HW1 := Lib.hid hw1
  have HB1 := Lib.hid hB1
  have HTAB := Lib.hid htab
  clear hw0 hw1 hB0 hB1 htu htab ho hd hnil hlt hlc hcm
  generalize tlen l = t at *
  go_enter Tryz.func16, Tryz.ntmps16
  go_wp2_with fail
  rw [← HW0.out]
  refine HROW.out.mono ?_
  rintro e w' ⟨rfl, rfl⟩
  rw [← HW1.out]
  go_wp2_with fail
  refine HTU.out.mono ?_
  rintro e w2 ⟨q, qc, N, rfl, hO, hdN, hrN, hvN, hNl, hb2⟩
  have HO := Lib.hid hO
  have HD := Lib.hid hdN
  have HR := Lib.hid hrN
  have HV := Lib.hid hvN
  have HB2 := Lib.hid (HB1.out.trans (hb2.mono HB1.out.size))
  clear hO hdN hrN hvN hb2
  by_cases hN : N = []
  · subst hN
    have hz : nv 4294967296 l = 0 := by rw [← HV.out]; rfl
    have HZ := Lib.hid hz
    clear hz
    go_wp2
    go_ret
    refine ⟨?_, HB2.out⟩
    rw [HZ.out, dec_small (by omega)]
    rfl
  · have hlpos : 0 < N.length := Nat.pos_of_ne_zero (fun e => hN (List.eq_nil_of_length_eq_zero e))
    have hne : (((N.length : Nat) : Int) == 0) = false := by rw [beq_eq_false_iff_ne]; omega
    have HNN := Lib.hid hN
    clear hN
    obtain ⟨w3, hw3⟩ : ∃ w3, w3 = w2.alloc (.cells #[.pointer none, .slice none 0 0] 68) := ⟨_, rfl⟩
    have hbuild : Lib.IsBuilder 68 5 w2.heap.size w2.heap.size [] w3 := by subst hw3; exact Lib.fresh_isBuilder _ _ _
    have hB3 : Below w2.heap.size w2 w3 := by subst hw3; exact (Below.refl _ _).alloc (Nat.le_refl _) _
    have HBU := Lib.hid hbuild
    have HB3 := Lib.hid hB3
    have HW3 := Lib.hid hw3
    clear hbuild hB3 hw3
    go_wp2
    rw [← HW3.out]
    go_loopw [5] (fun i wr => ∃ (j : Int), -1 ≤ j ∧ j < N.length ∧ i = .int .i64 j ∧ Hid (Lib.IsBuilder 68 5 w2.heap.size w2.heap.size (Lib.byteCells (grp (N.drop (j + 1).toNat))) wr) ∧ Hid (Below w2.heap.size w2 wr)) (fun i _ => (RowKit.intOf i + 1).toNat)
    case atStart =>
      refine ⟨(N.length : Int) - 1, by omega, by omega, rfl, ?_, HB3⟩
      have e1 : ((N.length : Int) - 1 + 1).toNat = N.length := by omega
      show Lib.IsBuilder _ _ _ _ _ _
      rw [e1, List.drop_length]
      exact HBU.out
    case round =>
      obtain ⟨j, hj1, hj2, rfl, HI, HB⟩ := hrel
      rename World => wr
      by_cases hj : 0 ≤ j
      · obtain ⟨k, rfl⟩ : ∃ k : Nat, j = k := ⟨j.toNat, by omega⟩
        have hk1 : k < N.length := by omega
        have e1 : ((k : Int) + 1).toNat = k + 1 := by omega
        have hI := HI.out
        rw [e1] at hI
        obtain ⟨gb, rfl, hcg⟩ : ∃ gb, q = some ⟨gb, 0, none⟩ ∧ wr.cell? ⟨gb, k, none⟩ = some (.int .u32 (gd N k : Nat)) := by
          obtain ⟨p', c', he, _, _, _, hs, hob⟩ := own_form HO.out
          simp only [Value.slice.injEq, true_and] at he
          obtain ⟨rfl, rfl⟩ := he
          rcases hs with h | ⟨b, off, h1, h2⟩
          · exact absurd h HNN.out
          · subst h1
            have h3 := hob b rfl
            have h4 : off = 0 := by simpa using h3.1
            subst h4
            have h5 := h2 k hk1
            rw [Nat.zero_add] at h5
            exact ⟨b, rfl, by rw [HB.out.cell (World.block_lt_of_cell? w2 _ h5)]; exact h5⟩
        have hg : gd N k < 1000000000 := gd_lt HD.out (by omega) k
        have hdr : N.drop k = gd N k :: N.drop (k + 1) := by unfold gd; rw [getD_at hk1]; exact List.drop_eq_getElem_cons hk1
        have hl9 := grp_len9 N HD.out HR.out (k + 1) (by omega)
        have hdp : k + 1 < N.length → grp (N.drop k) = grp (N.drop (k + 1)) ++ padDec 9 (gd N k) := by
          intro h
          rw [hdr]
          exact grp_cons _ _ (by intro e; have := congrArg List.length e; simp at this; omega) (drop_pos N (k + 1) HR.out h) hg
        have hdl : ¬ k + 1 < N.length → grp (N.drop k) = Lib.decDigits (gd N k) ∧ grp (N.drop (k + 1)) = [] := by
          intro h
          have e2 : N.drop (k + 1) = [] := List.drop_eq_nil_of_le (by omega)
          rw [hdr, e2]
          exact ⟨grp_top _, by simp [grp]⟩
        have hnd := nDigits_le 8 (gd N k) hg
        have hpd : padDec 9 (gd N k) = List.replicate (9 - Lib.nDigits (gd N k)) 48 ++ Lib.decDigits (gd N k) := rfl
        generalize gd N k = x at *
        have hf := fmtu_any x (by omega) wr (tabIs_below HTAB.out (HB2.out.trans (HB.out.mono HB2.out.size)))
        have hln := Lib.decDigits_length x
        obtain ⟨sb, hsb⟩ : ∃ sb : ByteArray, sb = ⟨(Lib.decDigits x).toArray⟩ := ⟨_, rfl⟩
        have hsz : sb.size = Lib.nDigits x := by rw [hsb, ← hln]; rfl
        have hsd : Lib.strCells sb = Lib.byteCells (Lib.decDigits x) := by rw [hsb]; rfl
        rw [← hsb] at hf
        have HF := Lib.hid hf
        have HDP := Lib.hid hdp
        have HDL := Lib.hid hdl
        have HSD := Lib.hid hsd
        have HPD := Lib.hid hpd
        have HSB := Lib.hid hsb
        have HSZ := Lib.hid hsz
        have hsz9 : sb.size ≤ 9 := by omega
        have HBI := Lib.hid hI
        clear hf hdp hdl hsd hpd hsb hsz hI hln hdr e1 hnd HI
        go_wp2_with fail
        refine HF.out.mono ?_
        rintro e w4 ⟨rfl, hb4⟩
        have hsz4 := hb4.size
        have hB4 : Below w2.heap.size w2 w4 := HB.out.trans (hb4.mono HB.out.size)
        have hbi4 : Lib.IsBuilder 68 5 w2.heap.size w2.heap.size (Lib.byteCells (grp (N.drop (k + 1)))) w4 := by
          rcases HBI.out with ⟨h1, v, h2, h3, h4⟩ | ⟨h1, v, h2, h3, h4⟩
          · refine .inl ⟨h1, v, by rw [hb4.block _ (lt_of_block h2)]; exact h2, ?_, h4⟩
            refine ⟨h3.1, ?_⟩
            rcases h3.2 with hn | ⟨g, cap, cur, rfl, hb5, hg5, rest⟩
            · exact .inl hn
            · exact .inr ⟨g, cap, cur, rfl, hb5, by rw [hb4.block g (lt_of_block hg5)]; exact hg5, rest⟩
          · refine .inr ⟨h1, v, by rw [hb4.block _ (lt_of_block h2)]; exact h2, ?_, h4⟩
            refine ⟨h3.1, ?_⟩
            rcases h3.2 with hn | ⟨g, cap, cur, rfl, hb5, hg5, rest⟩
            · exact .inl hn
            · exact .inr ⟨g, cap, cur, rfl, hb5, by rw [hb4.block g (lt_of_block hg5)]; exact hg5, rest⟩
        have HB4 := Lib.hid hB4
        have HBI4 := Lib.hid hbi4
        clear hB4 hbi4 hb4 HBI HB HF
        have hbl : (Lib.byteCells (grp (N.drop (k + 1)))).length = (grp (N.drop (k + 1))).length := by simp [Lib.byteCells]
        have HBL := Lib.hid hbl
        clear hbl
        by_cases hfirst : k + 1 < N.length
        · have hlp : 0 < (grp (N.drop (k + 1))).length := by
            unfold grp
            rw [if_neg (by intro e; have := congrArg List.length e; simp at this; omega), Lib.decDigits_length]
            exact Lib.nDigits_pos _
          have HLEN := Lib.hid (Tryz.Builder_Len w2.heap.size w2.heap.size _ w4 HBI4.out)
          have hgk := HDP.out hfirst
          have HGK := Lib.hid hgk
          clear hgk
          go_wp2_with fail
          refine HLEN.out.mono ?_
          rintro e w5 ⟨rfl, hw5⟩
          obtain rfl := hw5.symm
          clear hw5
          rw [HBL.out]
          have hlpI : 0 < (((grp (N.drop (k + 1))).length : Nat) : Int) := by omega
          generalize hgn : (grp (N.drop (k + 1))).length = gn at *
          have HGN := Lib.hid hgn
          clear hgn
          have e9 : (9 : Int) - (sb.size : Nat) = ((9 - sb.size : Nat) : Int) := by omega
          have hrep := Tryz.strings_Repeat ⟨#[48]⟩ (9 - sb.size) w4 (by omega) (by show 1 * (9 - sb.size) ≤ _; omega)
          have HREP := Lib.hid hrep
          have E9 := Lib.hid e9
          clear hrep e9 HLEN
          go_wp2_with fail
          rw [E9.out]
          refine HREP.out.mono ?_
          rintro e w6 ⟨rfl, hb6⟩
          have hbi6 : Lib.IsBuilder 68 5 w2.heap.size w2.heap.size (Lib.byteCells (grp (N.drop (k + 1)))) w6 := by
            rcases HBI4.out with ⟨h1, v, h2, h3, h4⟩ | ⟨h1, v, h2, h3, h4⟩
            · refine .inl ⟨h1, v, by rw [hb6.block _ (lt_of_block h2)]; exact h2, ?_, h4⟩
              refine ⟨h3.1, ?_⟩
              rcases h3.2 with hn | ⟨g, cap, cur, rfl, hb5, hg5, rest⟩
              · exact .inl hn
              · exact .inr ⟨g, cap, cur, rfl, hb5, by rw [hb6.block g (lt_of_block hg5)]; exact hg5, rest⟩
            · refine .inr ⟨h1, v, by rw [hb6.block _ (lt_of_block h2)]; exact h2, ?_, h4⟩
              refine ⟨h3.1, ?_⟩
              rcases h3.2 with hn | ⟨g, cap, cur, rfl, hb5, hg5, rest⟩
              · exact .inl hn
              · exact .inr ⟨g, cap, cur, rfl, hb5, by rw [hb6.block g (lt_of_block hg5)]; exact hg5, rest⟩
          have hB6 : Below w2.heap.size w2 w6 := HB4.out.trans (hb6.mono HB4.out.size)
          obtain ⟨rs, hrs⟩ : ∃ rs : ByteArray, rs = ⟨(Lib.repeatL (⟨#[48]⟩ : ByteArray).data.toList (9 - sb.size)).toArray⟩ := ⟨_, rfl⟩
          have hrc : Lib.strCells rs = Lib.byteCells (List.replicate (9 - sb.size) 48) := by
            rw [hrs, ← repeat0]; rfl
          have hrl : rs.size = 9 - sb.size := by
            have := congrArg List.length hrc
            simpa [Lib.strCells, Lib.byteCells] using this
          rw [← hrs]
          have hws := write_string w2.heap.size w2.heap.size _ rs w6 hbi6 (by rw [HBL.out, hrl]; omega) hB6.size
          have HWS := Lib.hid hws
          have HRC := Lib.hid hrc
          have HB6 := Lib.hid hB6
          have hrl9 : rs.size ≤ 9 := by omega
          clear hb6 hbi6 hB6 hrs hrc hrl hws HREP
          go_wp2_with fail
          refine HWS.out.mono ?_
          rintro e w7 ⟨rfl, hba7, hb7⟩
          have hB7 : Below w2.heap.size w2 w7 := HB6.out.trans hb7
          have hws2 := write_string w2.heap.size w2.heap.size _ sb w7 (.inr hba7) (by
            have e3 : (Lib.strCells rs).length = rs.size := by simp [Lib.strCells]
            rw [List.length_append, HBL.out, e3]; omega) hB7.size
          have HWS2 := Lib.hid hws2
          have HB7 := Lib.hid hB7
          clear hba7 hb7 hB7 hws2 HWS
          go_wp2_with fail
          refine HWS2.out.mono ?_
          rintro e w8 ⟨rfl, hba8, hb8⟩
          have hfin : Lib.IsBuilder 68 5 w2.heap.size w2.heap.size (Lib.byteCells (grp (N.drop k))) w8 := by
            rw [HGK.out, byteCells_app, HPD.out, byteCells_app, ← HSZ.out, ← HRC.out, ← HSD.out, ← List.append_assoc]
            exact .inr hba8
          have HFIN := Lib.hid hfin
          have HB8 := Lib.hid (HB7.out.trans hb8)
          clear hba8 hb8 hfin HWS2
          go_wp2
          go_roundw
          case rel =>
            refine ⟨(k : Int) - 1, by omega, by omega, rfl, ?_, HB8⟩
            have e1 : ((k : Int) - 1 + 1).toNat = k := by omega
            rw [e1]; exact HFIN
          case measure => simp [RowKit.intOf]
        · obtain ⟨hg1, hg2⟩ := HDL.out hfirst
          have HG1 := Lib.hid hg1
          have HG2 := Lib.hid hg2
          have HLEN := Lib.hid (Tryz.Builder_Len w2.heap.size w2.heap.size _ w4 HBI4.out)
          have hz : (Lib.byteCells (grp (N.drop (k + 1)))).length = 0 := by rw [HG2.out]; rfl
          have hws2 := write_string w2.heap.size w2.heap.size _ sb w4 HBI4.out (by rw [hz]; omega) HB4.out.size
          have HWS2 := Lib.hid hws2
          have HZ := Lib.hid hz
          clear hg1 hg2 hws2 hz
          go_wp2_with fail
          refine HLEN.out.mono ?_
          rintro e w5 ⟨rfl, hw5⟩
          obtain rfl := hw5.symm
          clear hw5
          rw [HZ.out]
          go_wp2_with fail
          refine HWS2.out.mono ?_
          rintro e w8 ⟨rfl, hba8, hb8⟩
          have hfin : Lib.IsBuilder 68 5 w2.heap.size w2.heap.size (Lib.byteCells (grp (N.drop k))) w8 := by
            rw [HG2.out, HSD.out] at hba8
            rw [HG1.out]
            exact .inr hba8
          have HFIN := Lib.hid hfin
          have HB8 := Lib.hid (HB4.out.trans hb8)
          clear hba8 hb8 hfin HWS2
          go_wp2
          go_roundw
          case rel =>
            refine ⟨(k : Int) - 1, by omega, by omega, rfl, ?_, HB8⟩
            have e1 : ((k : Int) - 1 + 1).toNat = k := by omega
            rw [e1]; exact HFIN
          case measure => simp [RowKit.intOf]
      · obtain rfl : j = -1 := by omega
        have hI := HI.out
        have e1 : ((-1 : Int) + 1).toNat = 0 := rfl
        rw [e1, List.drop_zero] at hI
        have hg : grp N = Lib.decDigits (nv 4294967296 l) := by unfold grp; rw [if_neg HNN.out, HV.out]
        rw [hg] at hI
        have HST := Lib.hid (Tryz.Builder_String_any w2.heap.size w2.heap.size _ wr hI HB.out.size)
        clear hI hg
        go_wp2_with fail
        refine HST.out.mono ?_
        rintro e w9 ⟨rfl, hb9⟩
        go_wp2
        go_ret
        exact ⟨rfl, HB2.out.trans ((HB.out.mono HB2.out.size).trans (hb9.mono HB2.out.size))⟩
end Go.Proofs.YtcahnkocfbcchaaGreatDoor

