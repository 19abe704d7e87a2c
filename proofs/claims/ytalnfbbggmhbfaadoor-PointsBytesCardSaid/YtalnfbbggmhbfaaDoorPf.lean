/- The walk of the reader's follow: the bytes behind a first one. -/
import Derived.Test.YtalnfbbggmhbfaaDoorPe
import Derived.Laws.BitsAllLaws
namespace Go.Proofs.YtalnfbbggmhbfaaDoor
open Go.RowKit Tnd

def leadV (l : Lead) : Value := .agg #[.int .u8 (l.low : Nat), .int .u8 (l.high : Nat), .int .u8 (l.mark : Nat), .int .i64 (l.behind : Nat), .int .u8 (l.next : Nat), .int .u8 (l.last : Nat)]
/-- how great a code point can be behind so many bytes. -/
def CB (k c : Nat) : Prop := (k = 0 ∧ c < 128) ∨ (k = 1 ∧ c < 8192) ∨ (k = 2 ∧ c < 524288) ∨ (k = 3 ∧ c < 33554432)

theorem fol_nil {k lo hi c : Nat} (h : 0 < k) : fol k lo hi c [] = (none, []) := by
  cases k with
  | zero => omega
  | succ k => rfl
theorem fol_no {k lo hi c : Nat} {x : UInt8} {t : List UInt8} (h : 0 < k) (hx : ¬ (lo ≤ x.toNat ∧ x.toNat ≤ hi)) : fol k lo hi c (x :: t) = (none, x :: t) := by
  cases k with
  | zero => omega
  | succ k => simp only [fol]; rw [if_neg hx]
theorem fol_yes {k lo hi c : Nat} {x : UInt8} {t : List UInt8} (h : 0 < k) (hx : lo ≤ x.toNat ∧ x.toNat ≤ hi) : fol k lo hi c (x :: t) = fol (k - 1) 128 191 (c * 64 + (x.toNat - 128)) t := by
  cases k with
  | zero => omega
  | succ k => simp only [fol, Nat.add_sub_cancel]; rw [if_pos hx]

theorem ofInt_i64 (a : Nat) (ha : a < 18446744073709551616) : (BitVec.ofInt 64 (a : Int)).toNat = a := by
  rw [BitVec.ofInt_natCast, BitVec.toNat_ofNat]; exact Nat.mod_eq_of_lt (by omega)
theorem i64_or_nat (a b : Nat) (ha : a < 9223372036854775808) (hb : b < 9223372036854775808) : bits .or .i64 (a : Int) (b : Int) = ((a ||| b : Nat) : Int) := by
  have hx : a ||| b < 2 ^ 63 := Nat.or_lt_two_pow (by omega) (by omega)
  show IntKind.i64.wrap ((BitVec.ofInt 64 (a : Int) ||| BitVec.ofInt 64 (b : Int)).toNat : Int) = _
  rw [BitVec.toNat_or, ofInt_i64 a (by omega), ofInt_i64 b (by omega), IntKind.wrap_i64]
  omega
theorem or_six (c n : Nat) (h : n < 64) : (c * 64) ||| n = c * 64 + n := by
  have h2 : c * 64 = c <<< 6 := by rw [Nat.shiftLeft_eq]
  rw [h2, Nat.shiftLeft_add_eq_or_of_lt (by omega)]
/-- a code point's next six bits. -/
theorem six_bits (c x : Nat) (hc : c < 1000000) (h1 : 128 ≤ x) (h2 : x ≤ 191) : bits BinOp.or IntKind.i64 (wrap64 ((c : Int) * 64)) (((x : Int) - 128) % 256) = ((c * 64 + (x - 128) : Nat) : Int) := by
  have e1 : wrap64 ((c : Int) * 64) = ((c * 64 : Nat) : Int) := by
    unfold wrap64; omega
  have e2 : ((x : Int) - 128) % 256 = ((x - 128 : Nat) : Int) := by omega
  rw [e1, e2, i64_or_nat _ _ (by omega) (by omega), or_six _ _ (by omega)]

def FollowPost (b B : Nat) (l : List Nat) (r : Option Nat × List UInt8) (w : World) (e : Ending) (w' : World) : Prop :=
  e = .returned (.bool r.1.isSome) ∧ Below B w w' ∧ Rd w' b B r.2 (l ++ r.1.toList)

set_option maxRecDepth 100000 in
theorem follow_any (b B : Nat) (t : List UInt8) (l : List Nat) (lo hi mk be ne la : Nat) (c : Nat) (w : World) (h : Rd w b B t l) (hbe : be ≤ 3) (hne : be = 0 ∨ (128 ≤ ne ∧ la ≤ 191)) (hc : c < 128) (hl : l.length ≤ 1000000) (ht : t.length ≤ 1000000) (hB : B ≤ b) :
    Calls Tryd.prog 31 #[.pointer (some ⟨b, 0, none⟩), .agg #[.int .u8 lo, .int .u8 hi, .int .u8 mk, .int .i64 be, .int .u8 ne, .int .u8 la], .int .i64 c] w (FollowPost b B l (fol be ne la c t) w) := by
  obtain ⟨i0, hinf, hz0, hz1, hz2⟩ := info_parts info_int
  have hb0 : Below w.heap.size w (w.alloc (.cells #[.int .u8 lo, .int .u8 hi, .int .u8 mk, .int .i64 be, .int .u8 ne, .int .u8 la] 63)) := bl_alloc _ _
  have hbl : b < w.heap.size := by obtain ⟨s, v, h1, _⟩ := h; exact lt_of_block h1
  have HR := Lib.hid (h.below hb0)
  have HB := Lib.hid (hb0.mono (show B ≤ w.heap.size by omega))
  have HBL := Lib.hid hbl
  have HBB := Lib.hid hB
  have HL := Lib.hid hl
  have HT := Lib.hid ht
  have HNE := Lib.hid hne
  clear hne
  have HC := Lib.hid (show CB 0 c from .inl ⟨rfl, hc⟩)
  have hbeI : (be : Int) ≤ 3 := by omega
  clear h hb0 hbl hB hl ht hc
  go_enter Tryd.func31, Tryd.ntmps31
  go_wp2
  go_quiet (fail)
  go_wp2
  obtain ⟨w1, hw1⟩ : ∃ w1, w1 = (w.alloc (.cells #[.int .u8 lo, .int .u8 hi, .int .u8 mk, .int .i64 be, .int .u8 ne, .int .u8 la] 63)).drewN nq := ⟨_, rfl⟩
  rw [← hw1]
  have HR1 : Hid (Rd w1 b B t l) := by subst hw1; exact HR.out.below (Joins.below_draws _ _ _)
  have HB1 : Hid (Below B w w1) := by subst hw1; exact HB.out.trans (Joins.below_draws _ _ _)
  have HS1 : Hid (b < w1.heap.size) := by obtain ⟨s, v, h1, _⟩ := HR1.out; exact lt_of_block h1
  clear hw1 HR HB
  go_loopw [2, 7, 8, 17] (fun cv lv hv iv wr => ∃ (k c' lo' hi' : Nat) (t' : List UInt8), k ≤ be ∧ cv = .int .i64 (c' : Nat) ∧ lv = .int .u8 (lo' : Nat) ∧ hv = .int .u8 (hi' : Nat) ∧ iv = .int .i64 (k : Nat) ∧ Hid (fol be ne la c t = fol (be - k) lo' hi' c' t') ∧ Hid (CB k c' ∧ (k < be → 128 ≤ lo' ∧ hi' ≤ 191)) ∧ Hid (Rd wr b B t' l) ∧ Hid (Below B w wr) ∧ Hid (t'.length ≤ 1000000)) (fun _ _ _ iv _ => be - (intOf iv).toNat)
  case atStart => exact ⟨0, c, ne, la, t, Nat.zero_le _, rfl, rfl, rfl, rfl, rfl, ⟨HC.out, fun h => by have := HNE.out; omega⟩, HR1.out, HB1.out, HT.out⟩
  case round =>
    obtain ⟨k, c', lo', hi', t', hk, rfl, rfl, rfl, rfl, HF, HC', HR', HB', HT'⟩ := hrel
    rename World => wr
    have hrd := HR'.out
    obtain ⟨s, v, h1, h2, h3⟩ := hrd
    have hc0 := two_cell0 h1
    have hf0 := two_free h1 0
    have hsz : s.size ≤ 9223372036854775807 := by
      have e1 := congrArg List.length h3
      have e2 := HT'.out
      simp at e1; omega
    have H1 := Lib.hid h1
    have H2 := Lib.hid h2
    have H3 := Lib.hid h3
    clear h1 h2 h3 hf0
    by_cases hkb : k < be
    · have hkI : (k : Int) < be := by omega
      match t', HF, HR', HT', H3 with
      | [], HF, HR', HT', H3 =>
        go_wp2_with (go_at_call 30; refine (take_nil _ s _ _ _ hc0 H3.out).mono ?_; rintro e w' ⟨rfl, rfl⟩)
        go_ret
        have e1 := HF.out
        rw [fol_nil (by omega)] at e1
        rw [e1]
        refine ⟨rfl, HB'.out, ?_⟩
        show Rd _ b B [] (l ++ [])
        rw [List.append_nil]; exact HR'.out
      | x :: t', HF, HR', HT', H3 =>
        by_cases hx : lo' ≤ x.toNat ∧ x.toNat ≤ hi'
        · have e1 := HF.out
          rw [fol_yes (by omega) hx] at e1
          have hfz := two_free H1.out 0
          have HT2 := Lib.hid (H2.out)
          go_wp2_with (go_at_call 30; refine (take_yes _ s x t' _ _ _ hsz hc0 hfz H3.out hx).mono ?_; rintro e w' ⟨rfl, rfl⟩)
          go_roundw
          case rel =>
            have hcb := HC'.out
            have hbx := hcb.2 hkb
            refine ⟨k + 1, c' * 64 + (x.toNat - 128), 128, 191, t', by omega, ?_, rfl, rfl, by go_num, ?_, ?_, Rd.take H1.out H2.out H3.out, HB'.out.setCell (by have := HBB.out; simpa using this) _, ?_⟩
            · rw [six_bits c' x.toNat (by have := hcb.1; unfold CB at this; omega) (by omega) (by omega)]
            · rw [show be - (k + 1) = be - k - 1 by omega]; exact e1
            · exact ⟨by have := hcb.1; unfold CB at this ⊢; omega, fun _ => ⟨by omega, by omega⟩⟩
            · have := HT'.out; simp at this; exact (show t'.length ≤ 1000000 by omega)
          case measure => simp [intOf]; omega
        · have e1 := HF.out
          rw [fol_no (by omega) hx] at e1
          go_wp2_with (go_at_call 30; refine (take_no _ s x t' _ _ _ hc0 H3.out hx).mono ?_; rintro e w' ⟨rfl, rfl⟩)
          go_ret
          rw [e1]
          refine ⟨rfl, HB'.out, ?_⟩
          show Rd _ b B (x :: t') (l ++ [])
          rw [List.append_nil]; exact HR'.out
    · have hkk : be - k = 0 := by omega
      have e1 := HF.out
      rw [hkk] at e1
      simp only [fol] at e1
      have E1 := Lib.hid e1
      have hkI : (be : Int) ≤ k := by omega
      obtain ⟨p, cc, hv, hlc, hcm, hpn, hsl, hob⟩ := own_form H2.out
      subst hv
      have hc1 := two_cell1 H1.out
      have hno := own_ne H2.out H1.out (by decide)
      have HNO := Lib.hid hno
      have HO := H2.out
      unfold Own at HO
      have HO2 := Lib.hid HO
      have HWR := Lib.hid (show b < wr.heap.size from lt_of_block H1.out)
      clear e1 hkk HO hlc hcm hpn hsl hob hno
      go_wp2_with (at_builtin; refine wpList_append_own _ rfl _ _ 24 rfl B 3 i0 (.int .i64 0) 1 8 Tryd.underlying24 hinf hz0 hz1 hz2 rfl (by decide) (.slice p l.length cc) l.length _ rfl (HO2.out.alloc _) ⟨wr.heap.size, 0, none⟩ 1 1 [.int .i64 ((c' : Nat) : Int)] rfl rfl ?c1 ?c2 ?c3 ?c4 ?c5 ?_)
      case c1 => exact cell_one_new _ _ _
      case c2 => simp [Value.oneCell']
      case c3 => have := HL.out; simp only [maxLen]; omega
      case c4 => have := HL.out; omega
      case c5 => have := HWR.out; have := HBB.out; simp; omega
      intro v' w5 hown5 hgrow5 _
      have hO5 := own_appended rfl hown5
      obtain ⟨p', c5, hs'⟩ : ∃ p' c5, v' = .slice p' (l.length + 1) c5 := by
        obtain ⟨p', c5, hs', _⟩ := own_form hO5
        exact ⟨p', c5, by rw [hs', List.length_append]; rfl⟩
      rw [hs'] at hO5 ⊢
      clear hs' hown5
      have hv5 : w5.heap[b]? = some (.cells #[.string s, .slice p l.length cc] 37 (0, 0)) := by
        rw [hgrow5.block b (by have := HWR.out; simp; omega) (fun e => HNO.out e.symm), heap_alloc_old _ _ HWR.out]; exact H1.out
      have hb5 : Below B w w5 := (HB'.out.alloc (by have := HWR.out; have := HBB.out; omega) _).grown hgrow5 (by have := HWR.out; have := HBB.out; simp; omega) (fun k hk => (HO2.out.lt k hk).1)
      have hfz := two_free hv5 1
      have hc5 := two_cell1 hv5
      have HO5 := Lib.hid hO5
      have HV5 := Lib.hid hv5
      have HB5 := Lib.hid hb5
      clear hO5 hv5 hb5 hgrow5 hc1
      go_wp2
      go_ret
      rw [E1.out]
      refine ⟨rfl, HB5.out.setCell (by have := HBB.out; simpa using this) _, ?_⟩
      have hne : (Value.slice p' (l.length + 1) c5).ownBlock ≠ some b := own_ne HO5.out HV5.out (by decide)
      exact ⟨s, _, two_set1 HV5.out, ownsRow_setCell_other (a := ⟨b, 1, none⟩) HO5.out hne _, H3.out⟩
end Go.Proofs.YtalnfbbggmhbfaaDoor
