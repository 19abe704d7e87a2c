/- Powers about the most digits; lists of numbers at work. -/
/- NatEnds: its own walk. -/
import Derived.Test.YtcahnkocfbcchaaGreatDoorNyb
import Derived.Test.YtcahnkocfbcchaaGreatDoorNe

namespace Go.Proofs.YtcahnkocfbcchaaGreatDoor
open Go.RowKit Tnd

theorem nv_zeros (K : Nat) : ∀ t, nv K (List.replicate t 0) = 0
  | 0 => rfl
  | t + 1 => by
    have h := nv_zeros K t
    show 0 + K * nv K (List.replicate t 0) = 0
    rw [h]; simp
theorem big_two : tooBig = 2 ^ (32 * maxD) := by
  unfold tooBig
  rw [show (4294967296 : Nat) = 2 ^ 32 from rfl, ← Nat.pow_mul]
theorem top_digs {t : Nat} {k : List Nat} (hd : Digs 4294967296 k) (hr : RightL k) (hv : nv 4294967296 k = 2 ^ (32 * t + 31)) : k = List.replicate t 0 ++ [2147483648] := by
  refine nv_unique 4294967296 (by omega) _ _ hd ?_ hr ?_ ?_
  · intro x hx
    rcases List.mem_append.1 hx with h | h
    · rw [(List.mem_replicate.1 h).2]; omega
    · rw [List.mem_singleton.1 h]; omega
  · unfold RightL
    rw [List.getLast?_append]
    simp
  · rw [hv, nv_snoc, nv_zeros, List.length_replicate, show (4294967296 : Nat) = 2 ^ 32 from rfl, ← Nat.pow_mul, show (2147483648 : Nat) = 2 ^ 31 from rfl, Nat.zero_add, ← Nat.pow_add]
/-- two to one less than the bits of the most digits. -/
theorem pow_top (z : Int) (t : Nat) (v : Value) (W : World) (hz : z = ((32 * t + 31 : Nat) : Int)) (ht : t + 1 = maxD) (hv : ∃ l, NatIn W W.heap.size v l ∧ l.length ≤ 100 ∧ nv 4294967296 l = 2) :
    Calls Tryz.prog 24 #[v, .int .i64 z] W fun e w' => ∃ g c, e = .returned (.tuple #[.agg #[.slice (some ⟨g, 0, none⟩) (t + 1) c], .int .i64 0]) ∧ w'.cell? ⟨g, t, none⟩ = some (.int .u32 2147483648) ∧ Below W.heap.size W w' := by
  obtain ⟨l, h1, h2, h3⟩ := hv
  have hm : maxD = 2000 := rfl
  have hb : nv 4294967296 l ^ (32 * t + 31) < tooBig := by
    rw [h3, big_two]
    exact Nat.pow_lt_pow_right (by omega) (by omega)
  refine (pow_int z (32 * t + 31) hz v l W h1 (by omega) (by omega) hb).mono ?_
  rintro e w' ⟨u, rfl, hf, hbl⟩
  obtain ⟨p, c, k, rfl, ho, hd, hr, hn⟩ := hf
  rw [h3] at hn
  have hk := top_digs hd hr hn
  have hlen : k.length = t + 1 := by rw [hk]; simp
  obtain ⟨p', c', e1, _, _, _, hs, hob⟩ := own_form ho
  simp only [Value.slice.injEq, true_and] at e1
  obtain ⟨rfl, rfl⟩ := e1
  rcases hs with h | ⟨b, off, rfl, hc⟩
  · rw [h] at hlen; simp at hlen
  · have h0 := (hob b rfl).1
    simp only [Option.some.injEq, Addr.mk.injEq, and_true] at h0
    obtain ⟨_, rfl⟩ := h0
    have hct := hc t (by omega)
    have hg : gd k t = 2147483648 := by
      rw [hk]; unfold gd
      simp
    rw [hg, Nat.zero_add] at hct
    exact ⟨b, c, by rw [hlen], hct, hbl⟩
theorem pow_over (z : Int) (n : Nat) (v : Value) (W : World) (hz : z = (n : Int)) (hn : n ≤ 9223372036854775807) (hb : 32 * maxD ≤ n) (hv : ∃ l, NatIn W W.heap.size v l ∧ l.length ≤ 100 ∧ nv 4294967296 l = 2) :
    Calls Tryz.prog 24 #[v, .int .i64 z] W fun e w' => e = .returned (.tuple #[.agg #[.slice none 0 0], .int .i64 3]) ∧ Below W.heap.size W w' := by
  obtain ⟨l, h1, h2, h3⟩ := hv
  subst hz
  refine (pow_pos v l n W h1 hn (by omega)).mono ?_
  rintro e w' ⟨u, c, rfl, hs, hbl⟩
  rw [h3] at hs
  rcases hs with ⟨h, _⟩ | ⟨_, rfl, rfl⟩
  · rw [big_two] at h
    have := Nat.pow_le_pow_right (show 0 < 2 by omega) hb
    omega
  · exact ⟨rfl, hbl⟩
theorem pow_low (z : Int) (n m : Nat) (v : Value) (W : World) (hz : z = (n : Int)) (hn : n ≤ 9223372036854775807) (h1 : 0 < n) (hm : m ≤ 1) (hv : ∃ l, NatIn W W.heap.size v l ∧ l.length ≤ 100 ∧ nv 4294967296 l = m) :
    Calls Tryz.prog 24 #[v, .int .i64 z] W fun e w' => ∃ q x c, e = .returned (.tuple #[.agg #[.slice q x c], .int .i64 0]) ∧ FNat w' W.heap.size (.agg #[.slice q x c]) m ∧ Below W.heap.size W w' := by
  obtain ⟨l, h3, h4, h5⟩ := hv
  have hp : m ^ n = m := by
    rcases Nat.le_one_iff_eq_zero_or_eq_one.1 hm with rfl | rfl
    · exact Nat.zero_pow h1
    · exact Nat.one_pow n
  have hb : nv 4294967296 l ^ n < tooBig := by rw [h5, hp]; exact Nat.lt_of_le_of_lt hm one_lt_big
  refine (pow_int z n hz v l W h3 hn (by omega) hb).mono ?_
  rintro e w' ⟨u, rfl, hf, hbl⟩
  rw [h5, hp] at hf
  obtain ⟨q, c, k, rfl, hr⟩ := hf
  exact ⟨q, k.length, c, rfl, ⟨q, c, k, rfl, hr⟩, hbl⟩
theorem fnat_in {W : World} {B m : Nat} {v : Value} (h : FNat W B v m) (hs : m ≤ 2) : ∃ l, NatIn W W.heap.size v l ∧ l.length ≤ 100 ∧ nv 4294967296 l = m := by
  obtain ⟨p, c, l, rfl, hin, hr, hv, _⟩ := h.nat
  refine ⟨l, hin, ?_, hv⟩
  by_cases hl : l = []
  · subst hl; simp
  · have h1 := right_ge 4294967296 l hr hl
    rw [hv] at h1
    by_cases h2 : l.length - 1 = 0
    · omega
    · have h3 : 4294967296 ^ 1 ≤ 4294967296 ^ (l.length - 1) := Nat.pow_le_pow_right (by omega) (by omega)
      omega

/-- a number's row, one of the call's own. -/
def Cg (W : World) (u : Value) : Prop := ∃ q c ds, u = .slice q ds.length c ∧ ds.length ≤ 10 ∧ Digs 4294967296 ds ∧ Own W 0 46 .u32 (.slice q ds.length c) ds
theorem Cg.below {W V : World} {u : Value} (h : Cg W u) (hb : Below W.heap.size W V) : Cg V u := by
  obtain ⟨q, c, ds, e, h1, h2, h3⟩ := h
  exact ⟨q, c, ds, e, h1, h2, own_below h3 hb⟩
theorem list_ne {W : World} {B n : Nat} {lv u : Value} {cells : List Value} {ds : List Nat} (hl : W.ownsRow B 24 1 lv n cells) (h : Own W 0 46 .u32 u ds) : u.ownBlock = none ∨ u.ownBlock ≠ lv.ownBlock := by
  rcases hl.2 with ⟨rfl, _⟩ | ⟨g, cap, cur, rfl, _, hh, _⟩
  · cases e : u.ownBlock with
    | none => exact .inl rfl
    | some k => exact .inr (by simp [Value.ownBlock])
  · exact .inr (own_ne h hh (by decide))
theorem Cg.grown {W V : World} {B n : Nat} {lv u : Value} {cells : List Value} (h : Cg W u) (hl : W.ownsRow B 24 1 lv n cells) (hg : W.grownBy V lv.ownBlock) : Cg V u := by
  obtain ⟨q, c, ds, e, h1, h2, h3⟩ := h
  exact ⟨q, c, ds, e, h1, h2, World.ownsRow.kept h3 hg (list_ne hl h3)⟩
/-- a list of numbers of the call's own. -/
def LS (W : World) (B : Nat) (lv : Value) (n : Nat) : Prop := ∃ cells, W.ownsRow B 24 1 lv n cells ∧ ∀ u ∈ cells, Cg W u
theorem LS.below {W V : World} {B n : Nat} {lv : Value} (h : LS W B lv n) (hb : Below W.heap.size W V) : LS V B lv n := by
  obtain ⟨cells, h1, h2⟩ := h
  exact ⟨cells, row_kept h1 hb, fun u hu => (h2 u hu).below hb⟩
/-- a list of numbers that can be read. -/
def RD (V : World) (g n : Nat) : Prop := ∀ j, j < n → ∃ q c ds, V.cell? ⟨g, j, none⟩ = some (.slice q ds.length c) ∧ ds.length ≤ 10 ∧ NatIn V V.heap.size (.agg #[.slice q ds.length c]) ds
theorem own_natIn {V : World} {B : Nat} {q : Option Addr} {c : Nat} {ds : List Nat} (h : Own V B 46 .u32 (.slice q ds.length c) ds) (hd : Digs 4294967296 ds) : NatIn V V.heap.size (.agg #[.slice q ds.length c]) ds := by
  obtain ⟨p', c', e1, h1, h2, h3, hs, _⟩ := own_form h
  simp only [Value.slice.injEq, true_and] at e1
  obtain ⟨rfl, rfl⟩ := e1
  refine ⟨_, _, rfl, ?_, hd, h1, h2, h3⟩
  rcases hs with h | ⟨b, off, e, hc⟩
  · exact .inl h
  · by_cases h0 : ds = []
    · exact .inl h0
    · have := List.length_pos_iff.2 h0
      exact .inr ⟨b, off, e, World.block_lt_of_cell? V _ (hc 0 this), hc⟩
theorem LS.rd {W : World} {B n : Nat} {lv : Value} (h : LS W B lv n) (hn : 0 < n) : ∃ g c, lv = .slice (some ⟨g, 0, none⟩) n c ∧ RD W g n ∧ g < W.heap.size := by
  obtain ⟨cells, h1, h2⟩ := h
  rcases h1.2 with ⟨_, e⟩ | ⟨g, cap, cur, rfl, hg, hh, hnc, hcm, hcs, htake⟩
  · omega
  · have hlen : cells.length = n := by have := h1.1; simpa using this
    refine ⟨g, cap, rfl, fun j hj => ?_, (World.ownsRow.lt h1 g rfl).2⟩
    obtain ⟨q, c, ds, e, k1, k2, k3⟩ := h2 cells[j] (List.getElem_mem (by omega))
    refine ⟨q, c, ds, ?_, k1, own_natIn k3 k2⟩
    have := World.ownsRow.cells h1 (g := g) rfl j (cells[j]) (List.getElem?_eq_getElem (by omega))
    rw [← e]
    have e2 : ((⟨g, 0, none⟩ : Addr).add j) = ⟨g, j, none⟩ := by simp [Addr.add]; exact Eq.symm
    rw [e2] at this
    exact this
theorem RD.below {V V' : World} {g n : Nat} (h : RD V g n) (hb : Below V.heap.size V V') : RD V' g n := fun j hj => by
  obtain ⟨q, c, ds, h1, h2, h3⟩ := h j hj
  exact ⟨q, c, ds, keep_cellK hb h1, h2, (h3.below hb).up hb.size⟩
/-- three of them, in a row that a call lays. -/
theorem nats_3 {V : World} {b : Nat} {q1 q2 q3 : Option Addr} {c1 c2 c3 : Nat} {d1 d2 d3 : List Nat} (hx : Bx V b 24 #[.slice q1 d1.length c1, .slice q2 d2.length c2, .slice q3 d3.length c3])
    (i1 : NatIn V V.heap.size (.agg #[.slice q1 d1.length c1]) d1) (i2 : NatIn V V.heap.size (.agg #[.slice q2 d2.length c2]) d2) (i3 : NatIn V V.heap.size (.agg #[.slice q3 d3.length c3]) d3) : NatsIn V V.heap.size (some ⟨b, 0, none⟩) [d1, d2, d3] := by
  obtain ⟨r1, s1, f1, g1, k1⟩ := i1
  obtain ⟨r2, s2, f2, g2, k2⟩ := i2
  obtain ⟨r3, s3, f3, g3, k3⟩ := i3
  simp only [Value.agg.injEq, Array.mk.injEq, List.cons.injEq, Value.slice.injEq, and_true, true_and] at f1 f2 f3
  obtain ⟨rfl, rfl⟩ := f1
  obtain ⟨rfl, rfl⟩ := f2
  obtain ⟨rfl, rfl⟩ := f3
  refine .inr ⟨b, 0, rfl, hx.lt, fun i hi => ?_⟩
  rw [Nat.zero_add]
  match i, hi with
  | 0, _ => exact ⟨q1, c1, hx.cell rfl, g1, k1⟩
  | 1, _ => exact ⟨q2, c2, hx.cell rfl, g2, k2⟩
  | 2, _ => exact ⟨q3, c3, hx.cell rfl, g3, k3⟩
/-- the numbers, and what is no number. -/
def numC : Array Value := #[.int .u64 0, .int .u64 1, .int .u64 2, .int .u64 9, .int .u64 10, .int .u64 4294967295, .int .u64 4294967296, .int .u64 4294967297, .int .u64 9223372036854775807, .int .u64 9223372036854775808, .int .u64 18446744073709551615]
theorem num_at {j : Nat} (hj : j < 11) : ∃ n : Nat, n < 2 ^ 64 ∧ numC[j]? = some (.int .u64 (n : Nat)) := by
  match j, hj with
  | 0, _ => exact ⟨0, by decide, rfl⟩
  | 1, _ => exact ⟨1, by decide, rfl⟩
  | 2, _ => exact ⟨2, by decide, rfl⟩
  | 3, _ => exact ⟨9, by decide, rfl⟩
  | 4, _ => exact ⟨10, by decide, rfl⟩
  | 5, _ => exact ⟨4294967295, by decide, rfl⟩
  | 6, _ => exact ⟨4294967296, by decide, rfl⟩
  | 7, _ => exact ⟨4294967297, by decide, rfl⟩
  | 8, _ => exact ⟨9223372036854775807, by decide, rfl⟩
  | 9, _ => exact ⟨9223372036854775808, by decide, rfl⟩
  | 10, _ => exact ⟨18446744073709551615, by decide, rfl⟩
def oddC : Array Value := #[.string ⟨#[]⟩, .string ⟨#[48]⟩, .string ⟨#[48, 48]⟩, .string ⟨#[48, 49]⟩, .string ⟨#[45, 49]⟩, .string ⟨#[43, 49]⟩, .string ⟨#[32, 49]⟩, .string ⟨#[49, 32]⟩, .string ⟨#[49, 97]⟩, .string ⟨#[52, 50, 57, 52, 57, 54, 55, 50, 57, 53]⟩, .string ⟨#[52, 50, 57, 52, 57, 54, 55, 50, 57, 54]⟩, .string ⟨#[49, 56, 52, 52, 54, 55, 52, 52, 48, 55, 51, 55, 48, 57, 53, 53, 49, 54, 49, 54]⟩, .string ⟨#[49, 95, 48]⟩, .string ⟨#[217, 163]⟩]
theorem odd_at {j : Nat} (hj : j < 14) : ∃ s : ByteArray, oddC[j]? = some (.string s) := by
  match j, hj with
  | 0, _ => exact ⟨_, rfl⟩
  | 1, _ => exact ⟨_, rfl⟩
  | 2, _ => exact ⟨_, rfl⟩
  | 3, _ => exact ⟨_, rfl⟩
  | 4, _ => exact ⟨_, rfl⟩
  | 5, _ => exact ⟨_, rfl⟩
  | 6, _ => exact ⟨_, rfl⟩
  | 7, _ => exact ⟨_, rfl⟩
  | 8, _ => exact ⟨_, rfl⟩
  | 9, _ => exact ⟨_, rfl⟩
  | 10, _ => exact ⟨_, rfl⟩
  | 11, _ => exact ⟨_, rfl⟩
  | 12, _ => exact ⟨_, rfl⟩
  | 13, _ => exact ⟨_, rfl⟩
end Go.Proofs.YtcahnkocfbcchaaGreatDoor


namespace Go.Proofs.YtcahnkocfbcchaaGreatDoor
open Go.RowKit Tnd

set_option maxHeartbeats 12800000 in
set_option maxRecDepth 100000 in
theorem ends_true (w : World) (htab : Lib.TabIs Tryz.prog w "internal/strconv.uint64pow10" .u64 Lib.pow10Tab) :
    Calls Tryz.prog 5 #[] w fun e w' => e = .returned (.bool true) ∧ Below w.heap.size w w' := by
  obtain ⟨W1, hW1⟩ : ∃ W, W = w.alloc (.cells numC 25) := ⟨_, rfl⟩
  have g1 : Below w.heap.size w W1 := by rw [hW1]; exact bl_alloc _ _
  have x1 : Bx W1 w.heap.size 25 numC := by rw [hW1]; exact Bx.new _ _ _
  obtain ⟨bn, hbn⟩ : ∃ b, b = w.heap.size := ⟨_, rfl⟩
  rw [← hbn] at x1
  have HW1 := Lib.hid (And.intro hbn.symm hW1.symm)
  have G1 := Lib.hid g1
  have X1 := Lib.hid x1
  have HTAB := Lib.hid htab
  clear htab hW1 g1 x1 hbn
  go_enter Tryz.func5, Tryz.ntmps5
  go_wp2
  rw [HW1.out.1, show w.alloc (.cells #[.int .u64 0, .int .u64 1, .int .u64 2, .int .u64 9, .int .u64 10, .int .u64 4294967295, .int .u64 4294967296, .int .u64 4294967297, .int .u64 9223372036854775807, .int .u64 9223372036854775808, .int .u64 18446744073709551615] 25) = W1 from HW1.out.2]
  go_loopw [2, 3] (fun lv iv wr => ∃ (i nl : Nat) (p : Option Addr) (c : Nat), i ≤ 11 ∧ iv = .int .i64 (i : Nat) ∧ lv = .slice p nl c ∧ Hid (nl = 3 * i) ∧ Hid (LS wr w.heap.size (.slice p nl c) nl) ∧ Hid (Bx wr bn 25 numC) ∧ Hid (Below w.heap.size w wr)) (fun _ iv _ => 11 - (intOf iv).toNat)
  case atStart => exact ⟨0, 0, none, 0, by omega, rfl, rfl, rfl, ⟨[], World.ownsRow_nil _ _ _ _, fun u hu => nomatch hu⟩, X1, G1⟩
  case round =>
    obtain ⟨i, nl, p, c, hi, rfl, rfl, HNL, HLS, HX, HB⟩ := hrel
    rename World => wr
    by_cases hi2 : i < 11
    · obtain ⟨n, hn, hcn⟩ := num_at hi2
      have hcell := HX.out.cell hcn
      have HOF := Lib.hid (rof_any n wr hn)
      have hiI : (i : Int) < 11 := by omega
      have HN := Lib.hid hn
      clear hn hcn
      go_upto_region 6 with fail
      go_wp2_with fail
      refine HOF.out.mono ?_
      rintro e w5 ⟨v, rfl, hf, hb5⟩
      obtain ⟨qa, ca, A, rfl, ho, hd, hr, hv⟩ := hf
      obtain ⟨W6, hW6⟩ : ∃ W, W = w5.alloc (.cells #[.slice qa A.length ca] 24) := ⟨_, rfl⟩
      obtain ⟨ba, hba⟩ : ∃ b, b = w5.heap.size := ⟨_, rfl⟩
      have HW6 := Lib.hid (And.intro hba.symm hW6.symm)
      have g6 : Below w5.heap.size w5 W6 := by rw [hW6]; exact bl_alloc _ _
      have g56 := bl_trans hb5 (bl_trans g6 (bl_drew W6))
      have x6 : Bx W6.drew ba 24 #[.slice qa A.length ca] := by rw [hW6, hba]; exact (Bx.new _ _ _).below (bl_drew _)
      have o6 : Own W6.drew 0 46 .u32 (.slice qa A.length ca) A := own_down (own_below ho (bl_trans g6 (bl_drew W6))) (Nat.zero_le _)
      have hA10 : A.length ≤ 2 := by
        by_cases h0 : A = []
        · rw [h0]; simp
        · have h1 := right_ge 4294967296 A hr h0
          rw [hv] at h1
          by_cases h2 : 2 ≤ A.length - 1
          · have h3 : 4294967296 ^ 2 ≤ 4294967296 ^ (A.length - 1) := Nat.pow_le_pow_right (by omega) h2
            have := HN.out
            omega
          · omega
      have hsl : Sl W6.drew .u32 qa A ∧ (qa = none → ca = 0) := by
        obtain ⟨p', c', e1, _, _, h3, hs, _⟩ := own_form o6
        simp only [Value.slice.injEq, true_and] at e1
        obtain ⟨rfl, rfl⟩ := e1
        exact ⟨hs, h3⟩
      have ls6 := HLS.out.below g56
      obtain ⟨cells, hrow, hcg⟩ := ls6
      have hb6 : Below w.heap.size w W6.drew := bl_trans HB.out g56
      have hx6 := HX.out.below g56
      have HROW := Lib.hid hrow
      have HCG := Lib.hid hcg
      have HX6 := Lib.hid hx6
      have HB6 := Lib.hid hb6
      have HO6 := Lib.hid o6
      have HSL := Lib.hid hsl
      have HA := Lib.hid hA10
      have HD := Lib.hid hd
      have XA := Lib.hid x6
      have hnl : nl ≤ 1000 := by have := HNL.out; omega
      have HNN := Lib.hid hnl
      clear hcell HOF hb5 ho hr hv hd hW6 hba g6 g56 x6 o6 hA10 hsl hrow hcg hb6 hx6 HX HB HLS hnl
      go_upto_region 7 with fail
      rw [HW6.out.1, HW6.out.2]
      refine e7_all (.slice p nl c) qa ca ba A w.heap.size nl cells (by rfl) (by rfl) (by rfl) (XA.out.cell rfl) HSL.out.1 HSL.out.2 (by have := HA.out; omega) HROW.out HB6.out.size HNN.out ?_ _
      intro f v' q7 q12 g c7 c12 w' h7 h12 hrow' hgr
      have hls : LS w' w.heap.size v' (nl + 3) := by
        refine ⟨_, hrow', fun u hu => ?_⟩
        rcases List.mem_append.1 hu with hu | hu
        · exact (HCG.out u hu).grown HROW.out hgr
        · simp only [List.mem_cons, List.not_mem_nil, or_false] at hu
          rcases hu with rfl | rfl | rfl
          · exact Cg.grown ⟨qa, ca, A, rfl, by have := HA.out; omega, HD.out, HO6.out⟩ HROW.out hgr
          · refine ⟨q7, c7, A ++ [0, 0], by simp, by have := HA.out; simp; omega, ?_, by simpa using h7⟩
            intro d hd
            rcases List.mem_append.1 hd with h | h
            · exact HD.out d h
            · simp only [List.mem_cons, List.not_mem_nil, or_false] at h
              rcases h with rfl | rfl <;> omega
          · refine ⟨q12, c12, [0, 4294967295] ++ A, by simp, by have := HA.out; simp; omega, ?_, by simpa using h12⟩
            intro d hd
            rcases List.mem_append.1 hd with h | h
            · simp only [List.mem_cons, List.not_mem_nil, or_false] at h
              rcases h with rfl | rfl <;> omega
            · exact HD.out d h
      have hx' : Bx w' bn 25 numC := by
        refine HX6.out.kept hgr fun e => ?_
        have h := HX6.out
        rcases HROW.out.2 with ⟨e1, _⟩ | ⟨g', cap, cur, e1, _, hh, _⟩
        · rw [e1] at e; cases e
        · rw [e1] at e
          simp only [Value.ownBlock, Option.some.injEq] at e
          rw [← e, show W6.drew.heap[bn]? = _ from h] at hh
          simp only [Option.some.injEq, Obj.cells.injEq] at hh
          exact absurd hh.2.1 (by decide)
      have hbw : Below w.heap.size w w' := HB6.out.grown hgr HB6.out.size (fun k hk => (World.ownsRow.lt HROW.out k hk).1)
      obtain ⟨p', c', rfl⟩ : ∃ p' c', v' = .slice p' (nl + 3) c' := by
        rcases hrow'.2 with ⟨_, e⟩ | ⟨g', cap, cur, e1, _⟩
        · omega
        · exact ⟨_, _, e1⟩
      have HLS' := Lib.hid hls
      have HX' := Lib.hid hx'
      have HB' := Lib.hid hbw
      have HNL' : Hid (nl + 3 = 3 * (i + 1)) := by have := HNL.out; show _ = _; omega
      clear h7 h12 hrow' hgr hls hx' hbw HROW HCG HX6 HB6 HO6 HSL HA HD XA HW6 HNL HNN
      generalize nl + 3 = nl' at *
      generalize f 1 = f1, f 2 = f2, f 3 = f3, f 4 = f4, f 5 = f5, f 6 = f6, f 7 = f7, f 8 = f8, f 9 = f9, f 10 = f10, f 11 = f11, f 12 = f12, f 13 = f13
      simp only [putL, List.foldl, Act.put, List.setIfInBounds_toArray, List.set_cons_zero, List.set_cons_succ]
      clear f
      go_wp2
      go_roundw
      case rel => exact ⟨i + 1, nl', p', c', by omega, by go_num, rfl, HNL', HLS', HX', HB'⟩
      case measure => simp [intOf]; omega
    · obtain rfl : i = 11 := by omega
      obtain ⟨gl, cl, hlv, hrd, _⟩ := HLS.out.rd (by have := HNL.out; omega)
      simp only [Value.slice.injEq, true_and] at hlv
      obtain ⟨rfl, rfl⟩ := hlv
      have hn0 : 0 < nl := by have := HNL.out; omega
      have hn1 : nl ≤ 1000 := by have := HNL.out; omega
      have HRD := Lib.hid hrd
      clear hrd HLS HNL
      rw [show ((11 : Nat) : Int) = 11 from rfl]
      go_wp2
      go_loopw [5] (fun iv wi => ∃ i : Nat, i ≤ nl ∧ iv = .int .i64 (i : Nat) ∧ Hid (Below wr.heap.size wr wi)) (fun iv _ => nl - (intOf iv).toNat)
      case atStart => exact ⟨0, by omega, rfl, Below.refl _ _⟩
      case round =>
        obtain ⟨i, hi3, rfl, HI⟩ := hrel
        rename World => wi
        by_cases hi4 : i < nl
        · have hiN : (i : Int) < (nl : Int) := by omega
          go_wp2
          go_loopw [6] (fun kv wk => ∃ k : Nat, k ≤ nl ∧ kv = .int .i64 (k : Nat) ∧ Hid (Below wr.heap.size wr wk)) (fun kv _ => nl - (intOf kv).toNat)
          case atStart => exact ⟨0, by omega, rfl, HI⟩
          case round =>
            clear HI
            obtain ⟨k, hk3, rfl, HK⟩ := hrel
            rename World => wk
            by_cases hk4 : k < nl
            · have hkN : (k : Int) < (nl : Int) := by omega
              have HWK := Lib.hid (bl_trans HK.out (bl_drew wk))
              have rd := HRD.out.below HWK.out
              obtain ⟨q1, c1, d1, e1, l1, n1⟩ := rd i hi4
              obtain ⟨q2, c2, d2, e2, l2, n2⟩ := rd k hk4
              have hmod : (i + k) % nl < nl := Nat.mod_lt _ hn0
              obtain ⟨q3, c3, d3, e3, l3, n3⟩ := rd ((i + k) % nl) hmod
              obtain ⟨nn, hnn, hcn⟩ := num_at (Nat.mod_lt (i + k) (show 0 < 11 by omega))
              have E1 := Lib.hid (And.intro e1 (And.intro e2 e3))
              have L1 := Lib.hid (And.intro l1 (And.intro l2 l3))
              have N1 := Lib.hid n1
              have N2 := Lib.hid n2
              have N3 := Lib.hid n3
              have HNN := Lib.hid hnn
              have EN := Lib.hid ((HX.out.below HWK.out).cell hcn)
              have HT := Lib.hid (fun (V : World) (hV : Below wk.drew.heap.size wk.drew V) => tells_true q1 q2 c1 c2 d1 d2 nn V (tabIs_below HTAB.out (bl_trans HB.out (bl_trans HWK.out hV))) ((N1.out.below hV).up hV.size) ((N2.out.below hV).up hV.size) (by have := L1.out; omega) HNN.out)
              have HS := Lib.hid (fun (V : World) (b : Nat) (hV : Below wk.drew.heap.size wk.drew V) (hx : Bx V b 24 #[.slice q1 d1.length c1, .slice q2 d2.length c2, .slice q3 d3.length c3]) => sums_true (some ⟨b, 0, none⟩) 3 [d1, d2, d3] V (tabIs_below HTAB.out (bl_trans HB.out (bl_trans HWK.out hV))) (nats_3 hx ((N1.out.below hV).up hV.size) ((N2.out.below hV).up hV.size) ((N3.out.below hV).up hV.size)) (by simp) (fun j hj => by
                have := L1.out
                match j, hj with
                | 0, _ => show d1.length ≤ _; omega
                | 1, _ => show d2.length ≤ _; omega
                | 2, _ => show d3.length ≤ _; omega))
              clear rd e1 e2 e3 l1 l2 l3 n1 n2 n3 hmod hnn hcn
              go_upto_region 14 with fail
              refine e14_wp q1 q2 q3 gl c nl d1.length c1 d2.length c2 d3.length c3 bn i k ((i + k) % 11) ((i + k) % nl) nn (by rfl) (by rfl) (by rfl) (by rfl) (by rfl) hi4 hk4 hn1 rfl rfl E1.out.1 E1.out.2.1 E1.out.2.2 EN.out HT.out HS.out ?_ _
              intro f y hk hb
              have e40 : f 40 = .bool false := hk 40 (by decide) (by decide)
              have HY := Lib.hid (bl_trans HWK.out hb)
              clear hk hb
              rw [e40]
              clear e40 HT HS E1 L1 N1 N2 N3 EN HWK
              generalize f 0 = f0, f 1 = f1, f 2 = f2, f 3 = f3, f 4 = f4, f 5 = f5, f 6 = f6, f 7 = f7, f 8 = f8, f 9 = f9, f 10 = f10, f 11 = f11, f 12 = f12, f 13 = f13, f 14 = f14, f 15 = f15, f 16 = f16, f 17 = f17, f 18 = f18, f 19 = f19, f 20 = f20, f 21 = f21, f 22 = f22, f 23 = f23, f 24 = f24, f 25 = f25, f 26 = f26, f 27 = f27, f 28 = f28, f 29 = f29, f 30 = f30, f 31 = f31, f 32 = f32, f 33 = f33, f 34 = f34, f 35 = f35, f 36 = f36, f 37 = f37, f 38 = f38, f 39 = f39
              simp only [putL, List.foldl, Act.put, List.setIfInBounds_toArray, List.set_cons_zero, List.set_cons_succ]
              clear f
              go_wp2
              go_roundw
              case rel => exact ⟨k + 1, by omega, by go_num, HY.out⟩
              case measure => simp [intOf]; omega
            · obtain rfl : k = nl := by omega
              go_wp2
              go_loopw [7] (fun zv wz => ∃ z : Int, -1 ≤ z ∧ z ≤ 5 ∧ zv = .int .i64 z ∧ Hid (Below wr.heap.size wr wz)) (fun zv _ => (5 - intOf zv).toNat)
              case atStart => exact ⟨-1, by omega, by omega, rfl, HK⟩
              case round =>
                clear HK
                obtain ⟨z, hz1, hz2, rfl, HZ⟩ := hrel
                rename World => wz
                by_cases hz3 : z < 5
                · obtain ⟨q1, c1, d1, e1, l1, n1⟩ := (HRD.out.below HZ.out) i hi4
                  have HP := Lib.hid (powers_true q1 c1 d1 z wz (tabIs_below HTAB.out (bl_trans HB.out HZ.out)) (by omega) n1)
                  clear l1 n1
                  go_upto_region 19 with fail
                  go_wp2_with fail
                  refine HP.out.mono ?_
                  rintro e w9 ⟨rfl, hb9⟩
                  have HY := Lib.hid (bl_trans HZ.out hb9)
                  clear hb9 HP e1
                  go_wp2
                  go_roundw
                  case rel => exact ⟨z + 1, by omega, by omega, by go_num, HY.out⟩
                  case measure => simp [intOf]; omega
                · obtain rfl : z = 5 := by omega
                  go_wp2
                  go_roundw
                  case rel => exact ⟨i + 1, by omega, by go_num, HZ.out⟩
                  case measure => simp [intOf]; omega
        · obtain rfl : i = nl := by omega
          obtain ⟨W2, hW2⟩ : ∃ W, W = wi.alloc (.cells oddC 9) := ⟨_, rfl⟩
          obtain ⟨bo, hbo⟩ : ∃ b, b = wi.heap.size := ⟨_, rfl⟩
          have HW2 := Lib.hid (And.intro hbo.symm hW2.symm)
          have g2 : Below wi.heap.size wi W2 := by rw [hW2]; exact bl_alloc _ _
          have XO : Hid (Bx W2 bo 9 oddC) := by show Bx _ _ _ _; rw [hW2, hbo]; exact Bx.new _ _ _
          have G2 := Lib.hid (bl_trans (bl_trans HB.out HI.out) g2)
          clear hW2 hbo g2 HI HB HRD HX
          go_wp2
          rw [HW2.out.1, show wi.alloc (.cells #[.string ⟨#[]⟩, .string ⟨#[48]⟩, .string ⟨#[48, 48]⟩, .string ⟨#[48, 49]⟩, .string ⟨#[45, 49]⟩, .string ⟨#[43, 49]⟩, .string ⟨#[32, 49]⟩, .string ⟨#[49, 32]⟩, .string ⟨#[49, 97]⟩, .string ⟨#[52, 50, 57, 52, 57, 54, 55, 50, 57, 53]⟩, .string ⟨#[52, 50, 57, 52, 57, 54, 55, 50, 57, 54]⟩, .string ⟨#[49, 56, 52, 52, 54, 55, 52, 52, 48, 55, 51, 55, 48, 57, 53, 53, 49, 54, 49, 54]⟩, .string ⟨#[49, 95, 48]⟩, .string ⟨#[217, 163]⟩] 9) = W2 from HW2.out.2]
          go_loopw [9] (fun iv wz => ∃ j : Nat, j ≤ 14 ∧ iv = .int .i64 (j : Nat) ∧ Hid (Below W2.heap.size W2 wz)) (fun iv _ => 14 - (intOf iv).toNat)
          case atStart => exact ⟨0, by omega, rfl, Below.refl _ _⟩
          case round =>
            obtain ⟨j, hj, rfl, HZ⟩ := hrel
            rename World => wz
            by_cases hj2 : j < 14
            · obtain ⟨s, hs⟩ := odd_at hj2
              have hcell := (XO.out.below HZ.out).cell hs
              have HT := Lib.hid (texts_true s wz (tabIs_below HTAB.out (bl_trans G2.out HZ.out)))
              have hjI : (j : Int) < 14 := by omega
              clear hs
              go_upto_region 25 with fail
              go_wp2_with fail
              refine HT.out.mono ?_
              rintro e w9 ⟨rfl, hb9⟩
              have HY := Lib.hid (bl_trans HZ.out hb9)
              clear hb9 HT hcell
              go_wp2
              go_roundw
              case rel => exact ⟨j + 1, by omega, by go_num, HY.out⟩
              case measure => simp [intOf]; omega
            · obtain rfl : j = 14 := by omega
              rw [show ((14 : Nat) : Int) = 14 from rfl]
              have G3 := Lib.hid (bl_trans G2.out HZ.out)
              have HO2 := Lib.hid (of_int 2 2 rfl wz (by omega))
              clear HZ G2 XO HW2 HW1 X1 G1
              go_upto_region 27 with fail
              go_wp2_with fail
              refine HO2.out.mono ?_
              rintro e u27 ⟨v, rfl, hf2, hb2⟩
              obtain ⟨q2, c2, k2, rfl, hf2r⟩ := hf2
              have F2 : FNat u27 wz.heap.size (.agg #[.slice q2 k2.length c2]) 2 := ⟨q2, c2, k2, rfl, hf2r⟩
              generalize k2.length = n2 at *
              obtain ⟨V27, hV27⟩ : ∃ W, W = u27.alloc (.cells #[.slice q2 n2 c2] 24) := ⟨_, rfl⟩
              obtain ⟨b10, hb10⟩ : ∃ b, b = u27.heap.size := ⟨_, rfl⟩
              have HV27 := Lib.hid (And.intro hb10.symm hV27.symm)
              have g27 : Below u27.heap.size u27 V27 := by rw [hV27]; exact bl_alloc _ _
              have X10 : Hid (Bx V27 b10 24 #[.slice q2 n2 c2]) := by show Bx _ _ _ _; rw [hV27, hb10]; exact Bx.new _ _ _
              have Y27 := Lib.hid (bl_trans G3.out (bl_trans hb2 g27))
              have T27 := Lib.hid (F2.below g27)
              clear HO2 hf2r hb2 hV27 hb10 g27 F2 G3
              have PW28 := Lib.hid ((pow_top 63999 1999 (.agg #[.slice q2 n2 c2]) V27 rfl rfl (fnat_in T27.out (by omega)) : Calls Tryz.prog 24 #[.agg #[.slice q2 n2 c2], .int .i64 63999] V27 fun e w' => ∃ g c, e = .returned (.tuple #[.agg #[.slice (some ⟨g, 0, none⟩) 2000 c], .int .i64 0]) ∧ w'.cell? ⟨g, 1999, none⟩ = some (.int .u32 2147483648) ∧ Below V27.heap.size V27 w'))
              go_upto_region 28 with fail
              rw [HV27.out.1, HV27.out.2]
              have k10 : V27.cell? ⟨b10, 0, none⟩ = some (.slice q2 n2 c2) := X10.out.cell (i := 0) rfl
              go_wp2_with fail
              refine PW28.out.mono ?_
              rintro e u28 ⟨ga, ca, rfl, hcd, hb_⟩
              obtain ⟨V28, hV28⟩ : ∃ W, W = u28.alloc (.cells #[.slice (some ⟨ga, 0, none⟩) 2000 ca] 24) := ⟨_, rfl⟩
              obtain ⟨b11, hb11⟩ : ∃ b, b = u28.heap.size := ⟨_, rfl⟩
              have HV28 := Lib.hid (And.intro hb11.symm hV28.symm)
              have g28 : Below u28.heap.size u28 V28 := by rw [hV28]; exact bl_alloc _ _
              have X11 : Hid (Bx V28 b11 24 #[.slice (some ⟨ga, 0, none⟩) 2000 ca]) := by show Bx _ _ _ _; rw [hV28, hb11]; exact Bx.new _ _ _
              have gg28 := bl_trans hb_ g28
              have Y28 := Lib.hid (bl_trans Y27.out gg28)
              have X10 := Lib.hid (X10.out.below gg28)
              have T28 := Lib.hid (T27.out.below gg28)
              have HCD := Lib.hid (keep_cellK g28 hcd)
              clear PW28 k10 hcd hb_ hV28 hb11 g28 gg28 T27 Y27
              have PW29 := Lib.hid (pow_over 64000 64000 (.agg #[.slice q2 n2 c2]) V28 rfl (by decide) (by decide) (fnat_in T28.out (by omega)))
              go_upto_region 29 with fail
              rw [HV28.out.1, HV28.out.2]
              have k10 : V28.cell? ⟨b10, 0, none⟩ = some (.slice q2 n2 c2) := X10.out.cell (i := 0) rfl
              go_wp2_with fail
              refine PW29.out.mono ?_
              rintro e u29 ⟨rfl, hb_⟩
              obtain ⟨V29, hV29⟩ : ∃ W, W = u29.alloc (.cells #[.slice none 0 0] 24) := ⟨_, rfl⟩
              obtain ⟨b13, hb13⟩ : ∃ b, b = u29.heap.size := ⟨_, rfl⟩
              have HV29 := Lib.hid (And.intro hb13.symm hV29.symm)
              have g29 : Below u29.heap.size u29 V29 := by rw [hV29]; exact bl_alloc _ _
              have X13 : Hid (Bx V29 b13 24 #[.slice none 0 0]) := by show Bx _ _ _ _; rw [hV29, hb13]; exact Bx.new _ _ _
              have gg29 := bl_trans hb_ g29
              have Y29 := Lib.hid (bl_trans Y28.out gg29)
              have X10 := Lib.hid (X10.out.below gg29)
              have X11 := Lib.hid (X11.out.below gg29)
              have T29 := Lib.hid (T28.out.below gg29)
              have HCD := Lib.hid (keep_cellK gg29 HCD.out)
              clear PW29 k10 hb_ hV29 hb13 g29 gg29 T28 Y28
              have PW30 := Lib.hid (pow_over 4611686018427387904 4611686018427387904 (.agg #[.slice q2 n2 c2]) V29 rfl (by decide) (by decide) (fnat_in T29.out (by omega)))
              go_upto_region 30 with fail
              rw [HV29.out.1, HV29.out.2]
              have k10 : V29.cell? ⟨b10, 0, none⟩ = some (.slice q2 n2 c2) := X10.out.cell (i := 0) rfl
              go_wp2_with fail
              refine PW30.out.mono ?_
              rintro e u30 ⟨rfl, hb_⟩
              obtain ⟨V30, hV30⟩ : ∃ W, W = u30.alloc (.cells #[.slice none 0 0] 24) := ⟨_, rfl⟩
              obtain ⟨b15, hb15⟩ : ∃ b, b = u30.heap.size := ⟨_, rfl⟩
              have HV30 := Lib.hid (And.intro hb15.symm hV30.symm)
              have g30 : Below u30.heap.size u30 V30 := by rw [hV30]; exact bl_alloc _ _
              have X15 : Hid (Bx V30 b15 24 #[.slice none 0 0]) := by show Bx _ _ _ _; rw [hV30, hb15]; exact Bx.new _ _ _
              have gg30 := bl_trans hb_ g30
              have Y30 := Lib.hid (bl_trans Y29.out gg30)
              have X10 := Lib.hid (X10.out.below gg30)
              have X11 := Lib.hid (X11.out.below gg30)
              have T30 := Lib.hid (T29.out.below gg30)
              have HCD := Lib.hid (keep_cellK gg30 HCD.out)
              have HO1 := Lib.hid (of_int 1 1 rfl V30 (by omega))
              clear PW30 k10 hb_ hV30 hb15 g30 gg30 T29 Y29
              go_upto_region 31 with fail
              rw [HV30.out.1, HV30.out.2]
              go_wp2_with fail
              refine HO1.out.mono ?_
              rintro e u1 ⟨v, rfl, hf1, hb1⟩
              have IN1 := fnat_in hf1 (by omega)
              obtain ⟨q1, c1, k1, rfl, _⟩ := hf1
              have PW31 := Lib.hid (pow_low 4611686018427387904 4611686018427387904 1 (.agg #[.slice q1 k1.length c1]) u1 rfl (by decide) (by decide) (by omega) IN1)
              have B1 := Lib.hid hb1
              clear IN1 hb1
              generalize k1.length = n1 at *
              go_wp2_with fail
              refine PW31.out.mono ?_
              rintro e u31 ⟨qb, nb, cb, rfl, hfb, hb_⟩
              obtain ⟨V31, hV31⟩ : ∃ W, W = u31.alloc (.cells #[.slice qb nb cb] 24) := ⟨_, rfl⟩
              obtain ⟨b17, hb17⟩ : ∃ b, b = u31.heap.size := ⟨_, rfl⟩
              have HV31 := Lib.hid (And.intro hb17.symm hV31.symm)
              have g31 : Below u31.heap.size u31 V31 := by rw [hV31]; exact bl_alloc _ _
              have X17 : Hid (Bx V31 b17 24 #[.slice qb nb cb]) := by show Bx _ _ _ _; rw [hV31, hb17]; exact Bx.new _ _ _
              have gg31 := bl_trans (bl_trans B1.out hb_) g31
              have Y31 := Lib.hid (bl_trans Y30.out gg31)
              have FB := Lib.hid (hfb.below g31)
              have X10 := Lib.hid (X10.out.below gg31)
              have X11 := Lib.hid (X11.out.below gg31)
              have T31 := Lib.hid (T30.out.below gg31)
              have HCD := Lib.hid (keep_cellK gg31 HCD.out)
              clear HO1 PW31 B1 hfb hb_ hV31 hb17 g31 gg31 T30 Y30
              obtain ⟨U32, hU32⟩ : ∃ W, W = V31.alloc (.cells #[.int .u32 0] 46) := ⟨_, rfl⟩
              obtain ⟨bz, hbz⟩ : ∃ b, b = V31.heap.size := ⟨_, rfl⟩
              have HU32 := Lib.hid (And.intro hbz.symm hU32.symm)
              have gz : Below V31.heap.size V31 U32 := by rw [hU32]; exact bl_alloc _ _
              have oz : Own U32 0 46 .u32 (.slice (some ⟨bz, 0, none⟩) 1 1) [0] := by rw [hU32, hbz]; exact own_lit V31 0 [0] _ rfl (Nat.zero_le _) (by simp)
              have PW32 := Lib.hid (pow_low 4611686018427387904 4611686018427387904 0 (.agg #[.slice (some ⟨bz, 0, none⟩) 1 1]) U32 rfl (by decide) (by decide) (by omega) ⟨[0], own_natIn oz (by intro d hd; rw [List.mem_singleton.1 hd]; omega), by simp, rfl⟩)
              have GZ := Lib.hid gz
              clear hU32 hbz gz oz
              go_upto_region 32 with fail
              rw [HV31.out.1, HV31.out.2]
              go_wp2_with fail
              rw [HU32.out.1, HU32.out.2]
              refine PW32.out.mono ?_
              rintro e u32 ⟨qc, nc, cc, rfl, hfc, hb_⟩
              obtain ⟨V32, hV32⟩ : ∃ W, W = u32.alloc (.cells #[.slice qc nc cc] 24) := ⟨_, rfl⟩
              obtain ⟨b19, hb19⟩ : ∃ b, b = u32.heap.size := ⟨_, rfl⟩
              have HV32 := Lib.hid (And.intro hb19.symm hV32.symm)
              have g32 : Below u32.heap.size u32 V32 := by rw [hV32]; exact bl_alloc _ _
              have X19 : Hid (Bx V32 b19 24 #[.slice qc nc cc]) := by show Bx _ _ _ _; rw [hV32, hb19]; exact Bx.new _ _ _
              have gg32 := bl_trans (bl_trans GZ.out hb_) g32
              have Y32 := Lib.hid (bl_trans Y31.out gg32)
              have FC := Lib.hid (hfc.below g32)
              have FB := Lib.hid (FB.out.below gg32)
              have X10 := Lib.hid (X10.out.below gg32)
              have X11 := Lib.hid (X11.out.below gg32)
              have X17 := Lib.hid (X17.out.below gg32)
              have T32 := Lib.hid (T31.out.below gg32)
              have HCD := Lib.hid (keep_cellK gg32 HCD.out)
              clear PW32 GZ hfc hb_ hV32 hb19 g32 gg32 T31 Y31 HU32
              have PW33 := Lib.hid (pow_neg q2 n2 c2 (-9223372036854775808) V32 (by omega))
              go_upto_region 33 with fail
              rw [HV32.out.1, HV32.out.2]
              have k10 : V32.cell? ⟨b10, 0, none⟩ = some (.slice q2 n2 c2) := X10.out.cell (i := 0) rfl
              go_wp2_with fail
              refine PW33.out.mono ?_
              rintro e u33 ⟨rfl, hb_⟩
              obtain ⟨V33, hV33⟩ : ∃ W, W = u33.alloc (.cells #[.slice none 0 0] 24) := ⟨_, rfl⟩
              obtain ⟨b21, hb21⟩ : ∃ b, b = u33.heap.size := ⟨_, rfl⟩
              have HV33 := Lib.hid (And.intro hb21.symm hV33.symm)
              have g33 : Below u33.heap.size u33 V33 := by rw [hV33]; exact bl_alloc _ _
              have X21 : Hid (Bx V33 b21 24 #[.slice none 0 0]) := by show Bx _ _ _ _; rw [hV33, hb21]; exact Bx.new _ _ _
              have gg33 := bl_trans hb_ g33
              have Y33 := Lib.hid (bl_trans Y32.out gg33)
              have gg := bl_trans gg33 (bl_drew V33)
              have X11 := Lib.hid (X11.out.below gg)
              have X17 := Lib.hid (X17.out.below gg)
              have X19 := Lib.hid (X19.out.below gg)
              have HCD := Lib.hid (keep_cellK gg HCD.out)
              have FB := Lib.hid (FB.out.below gg)
              have FC := Lib.hid (FC.out.below gg)
              have YD := Lib.hid (bl_trans Y33.out (bl_drew V33))
              clear PW33 k10 hb_ hV33 hb21 g33 gg33 gg T32 Y32 X10 Y33
              go_upto_region 34 with fail
              rw [HV33.out.1, HV33.out.2]
              refine e34_wp qb qc ga ca nb cb nc cc b11 b17 b19 (by rfl) (by rfl) (by rfl) (by rfl) (by rfl) (by rfl) (by rfl) (by rfl) (by rfl) (by rfl) (X11.out.cell rfl) (X17.out.cell rfl) (X19.out.cell rfl) HCD.out (fun V hV => (of_int 1 1 rfl V (by omega)).mono fun _ _ h => FP.of h (Nat.zero_le _)) (fun V q n c B hV hf => fnat_same (k := 1) (FB.out.below hV) hf (by decide) (by decide)) (fun V hV => fnat_same (k := 1) (FC.out.below hV) (fnat_nil0 V 0) (by decide) (by decide)) (fun V hV => sums_true none 0 [] V (tabIs_below HTAB.out (bl_trans YD.out hV)) (.inl rfl) (by simp) (fun k hk => by simp at hk)) (fun V hV => awake_any V (tabIs_below HTAB.out (bl_trans YD.out hV))) ?_ _
              intro f y hk hb
              have e51 : f 51 = .bool true := hk 51 (by decide) (by decide)
              have HE := Lib.hid (bl_trans YD.out hb)
              clear hk hb
              rw [e51]
              clear e51
              generalize f 0 = f0, f 1 = f1, f 2 = f2, f 3 = f3, f 4 = f4, f 5 = f5, f 6 = f6, f 7 = f7, f 8 = f8, f 9 = f9, f 10 = f10, f 11 = f11, f 12 = f12, f 13 = f13, f 14 = f14, f 15 = f15, f 16 = f16, f 17 = f17, f 18 = f18, f 19 = f19, f 20 = f20, f 21 = f21, f 22 = f22, f 23 = f23, f 24 = f24, f 25 = f25, f 26 = f26, f 27 = f27, f 28 = f28, f 29 = f29, f 30 = f30, f 31 = f31, f 32 = f32, f 33 = f33, f 34 = f34, f 35 = f35, f 36 = f36, f 37 = f37, f 38 = f38, f 39 = f39, f 40 = f40, f 41 = f41, f 42 = f42, f 43 = f43, f 44 = f44, f 45 = f45, f 46 = f46, f 47 = f47, f 48 = f48, f 49 = f49, f 50 = f50
              simp only [putL, List.foldl, Act.put, List.setIfInBounds_toArray, List.set_cons_zero, List.set_cons_succ]
              clear f
              go_wp2
              go_ret
              exact ⟨rfl, HE.out⟩
end Go.Proofs.YtcahnkocfbcchaaGreatDoor

