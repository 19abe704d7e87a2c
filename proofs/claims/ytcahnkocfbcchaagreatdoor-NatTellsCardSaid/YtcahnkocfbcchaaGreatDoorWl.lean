/- The walks of FormatUint at base 10 and of Text. -/
import Derived.Test.YtcahnkocfbcchaaGreatDoorDec
import Derived.Test.YtcahnkocfbcchaaGreatDoorWk
import Derived.Lib.ItoaMem
import Derived.Lib.ItoaNum

namespace Go.Proofs.YtcahnkocfbcchaaGreatDoor
open Go.RowKit Tnd Go.Lib Go.Sort

theorem arr24 : Tryz.prog.arrayLen 151 = 24 := by kernel_rfl

theorem write_string (B b : Nat) (bs : List Value) (s : ByteArray) (w : World) (h : Lib.IsBuilder 68 5 B b bs w) (hlen : bs.length + s.size ≤ 140737488355328) (hBw : B ≤ w.heap.size) :
    Calls Tryz.prog 43 #[.pointer (some ⟨b, 0, none⟩), .string s] w fun e w' => e = .returned (.tuple #[.int .i64 s.size, .nilIface]) ∧ (Lib.BuilderAt 68 5 B b (.pointer (some ⟨b, 0, none⟩)) (bs ++ Lib.strCells s) w' ∧ Below B w w') :=
  Any.Builder_WriteString { Tryz.lays105 with } Tryz.Builder_Extra_105 B b bs s w h hlen hBw

set_option maxHeartbeats 3200000 in
set_option maxRecDepth 100000 in
theorem fmtu_in (u : Nat) (hu : u < 18446744073709551616) (w : World) (htab : Lib.TabIs Tryz.prog w "internal/strconv.uint64pow10" .u64 Lib.pow10Tab) :
    Calls Tryz.prog 72 #[.int .u64 (u : Nat), .int .i64 10] w fun e w' => e = .returned (.string ⟨(Lib.decDigits u).toArray⟩) ∧ Below w.heap.size w w' := by
  by_cases hs : u < 100
  · have HT := Lib.hid htab
    clear htab
    go_enter Tryz.func72, Tryz.ntmps72
    go_wp2_with fail
    refine (Tryz.internal_strconv_small u hs _).mono ?_
    rintro e w' ⟨rfl, hw⟩
    obtain rfl := hw.symm
    clear hw
    go_wp2
    go_ret
    exact ⟨rfl, Below.refl _ _⟩
  · have hu1 : 1 ≤ u := by omega
    have hnd20 : Lib.nDigits u ≤ 20 := by have := Lib.numDigits_eq u hu1 hu; split at this <;> omega
    have hH0 : Holds (fun (b : UInt8) => Value.int .u8 (b.toNat : Int)) (w.alloc (.cells Lib.zeros24 151)) w.heap.size 0 (Array.replicate (Lib.nDigits u) (0 : UInt8)) := by
      intro j hj
      rw [Array.size_replicate] at hj
      refine ⟨?_, World.frozen?_alloc_new _ _ _ _⟩
      rw [Nat.zero_add, World.cell?_alloc_new, Lib.zeros24_at j (by omega)]
      simp [getElem!_pos, hj]
    have hfmt := Tryz.internal_strconv_formatBase10 w.heap.size 0 24 u (Array.replicate (Lib.nDigits u) 0) (w.alloc (.cells Lib.zeros24 151)) hH0 (by rw [Array.size_replicate]; exact Lib.lt_pow_nDigits u) hu (by rw [Array.size_replicate]; omega)
    rw [Array.size_replicate] at hfmt
    have HH0 := Lib.hid hH0
    have HFMT := Lib.hid hfmt
    have HND := Lib.hid (Tryz.internal_strconv_numDigits u hu1 hu (w.alloc (.cells Lib.zeros24 151)) (Lib.tabIs_alloc htab _))
    clear hH0 hfmt htab
    have hnI : Lib.nDigits u ≤ 24 := by omega
    have hnp := Lib.nDigits_pos u
    go_enter Tryz.func72, Tryz.ntmps72
    have hsl : ∀ W, (Instr.sliceAt 151 (.pointer (some ⟨w.heap.size, 0, none⟩)) none (some (.int .i64 (Lib.nDigits u : Nat))) none).run Tryz.prog W = .ok (.slice (some ⟨w.heap.size, 0, none⟩) (Lib.nDigits u) 24) W := fun W => by
      rw [run_sliceAt_array_h W 151 ⟨w.heap.size, 0, none⟩ (by simp [Program.arrayLen, Program.elem, Tryz.underlying151]) .i64 (Lib.nDigits u : Nat) (by omega) (by rw [arr24]; omega)]
      go_simp
    go_wp2_with (first
      | (go_at_call 108; refine HND.out.mono ?_; rintro e w' ⟨rfl, rfl⟩))
    go_at_call 109
    refine HFMT.out.mono ?_
    rintro e w' ⟨rfl, k, v', dk, rfl, hF⟩
    have hcv : (convert 58 9 (.slice (some ⟨w.heap.size, 0, none⟩) (Lib.nDigits u) 24)).run Tryz.prog ((putRow (fun (b : UInt8) => Value.int .u8 (b.toNat : Int)) (w.alloc (.cells Lib.zeros24 151)) w.heap.size 0 dk).drewN k) = .ok (.string ⟨(Lib.decDigits u).toArray⟩) ((putRow (fun (b : UInt8) => Value.int .u8 (b.toNat : Int)) (w.alloc (.cells Lib.zeros24 151)) w.heap.size 0 dk).drewN k) := by
      have h := run_convert_bytes_back (P := Tryz.prog) ((putRow (fun (b : UInt8) => Value.int .u8 (b.toNat : Int)) (w.alloc (.cells Lib.zeros24 151)) w.heap.size 0 dk).drewN k) 58 9 5 ⟨w.heap.size, 0, none⟩ 24 (Lib.decDigits u) Tryz.underlying58 Tryz.underlying5 Tryz.underlying9 (fun j hj => by
        rw [Lib.row_is_numeral hF j hj, Lib.add_plain, World.cell?_drewN]
        exact cell?_putRow (fun (b : UInt8) => Value.int .u8 (b.toNat : Int)) _ w.heap.size 0 _ dk HH0.out (by rw [hF.size, Array.size_replicate]) j (by rw [hF.size]; rw [Lib.decDigits_length] at hj; exact hj))
      rw [Lib.decDigits_length] at h
      exact h
    go_wp2
    go_ret
    refine ⟨rfl, ?_⟩
    refine below_drewN ?_ _
    refine ((Below.refl _ w).alloc (Nat.le_refl _) (.cells Lib.zeros24 151)).trans ⟨rfl, rfl, rfl, by simp, fun j hj => ?_⟩
    show ((w.alloc _).heap.modify w.heap.size _)[j]? = _
    rw [Array.getElem?_modify, if_neg (by omega)]

theorem fmtu_any (u : Nat) (hu : u < 18446744073709551616) (w : World) (htab : Lib.TabIs Tryz.prog w "internal/strconv.uint64pow10" .u64 Lib.pow10Tab) :
    Calls Tryz.prog 41 #[.int .u64 (u : Nat), .int .i64 10] w fun e w' => e = .returned (.string ⟨(Lib.decDigits u).toArray⟩) ∧ Below w.heap.size w w' := by
  have H := Lib.hid (fmtu_in u hu w htab)
  clear htab
  go_enter Tryz.func41, Tryz.ntmps41
  go_wp2_with fail
  refine H.out.mono ?_
  rintro e w' ⟨rfl, hb⟩
  go_wp2
  go_ret
  exact ⟨rfl, hb⟩

/-- the numeral of the groups from place k on, the highest ahead. -/
def grp (N : List Nat) : List UInt8 := if N = [] then [] else Lib.decDigits (nv 1000000000 N)
theorem grp_top (d : Nat) : grp [d] = Lib.decDigits d := by simp [grp, nv]
theorem grp_cons (d : Nat) (N : List Nat) (hN : N ≠ []) (hv : 1 ≤ nv 1000000000 N) (hd : d < 1000000000) : grp (d :: N) = grp N ++ padDec 9 d := by
  unfold grp
  rw [if_neg (by simp), if_neg hN]
  have e : nv 1000000000 (d :: N) = nv 1000000000 N * 10 ^ (8 + 1) + d := by simp only [nv]; omega
  rw [e]
  exact dec_split 8 _ _ hv hd
theorem padDec_length (d : Nat) (hd : d < 1000000000) : (padDec 9 d).length = 9 := by
  unfold padDec
  rw [List.length_append, List.length_replicate, Lib.decDigits_length]
  have := nDigits_le 8 d hd
  omega
theorem drop_pos (N : List Nat) (k : Nat) (hr : RightL N) (hk : k < N.length) : 1 ≤ nv 1000000000 (N.drop k) := by
  have hr2 : RightL (N.drop k) := by
    unfold RightL at *
    rw [List.getLast?_drop, if_neg (by omega)]
    exact hr
  have h := right_ge 1000000000 (N.drop k) hr2 (by intro e; have := congrArg List.length e; simp at this; omega)
  have h2 : 0 < 1000000000 ^ ((N.drop k).length - 1) := Nat.pow_pos (by omega)
  omega
theorem grp_len9 (N : List Nat) (hd : Digs 1000000000 N) (hr : RightL N) : ∀ k, k ≤ N.length → (grp (N.drop k)).length ≤ 9 * (N.length - k) := by
  intro k
  obtain ⟨j, hj⟩ : ∃ j, j = N.length - k := ⟨_, rfl⟩
  induction j generalizing k with
  | zero => intro hk; rw [List.drop_eq_nil_of_le (by omega)]; simp [grp]
  | succ j ih =>
    intro hk
    have hk1 : k < N.length := by omega
    have e : N.drop k = gd N k :: N.drop (k + 1) := by unfold gd; rw [getD_at hk1]; exact List.drop_eq_getElem_cons hk1
    have hg : gd N k < 1000000000 := gd_lt hd (by omega) k
    have h := ih (k + 1) (by omega) (by omega)
    rw [e]
    by_cases hn : N.drop (k + 1) = []
    · rw [hn, grp_top, Lib.decDigits_length]
      have := nDigits_le 8 (gd N k) hg
      omega
    · have hk2 : k + 1 < N.length := by
        by_cases h2 : k + 1 < N.length
        · exact h2
        · exact absurd (List.drop_eq_nil_of_le (by omega)) hn
      rw [grp_cons _ _ hn (drop_pos N (k + 1) hr hk2) hg, List.length_append, padDec_length _ hg]
      omega
end Go.Proofs.YtcahnkocfbcchaaGreatDoor
