/- The walks of what reads the rest of an escape: control, zero, short, long. -/
import Derived.Test.YtnedbeomflllcaaYe
namespace Go.Proofs.Ytnedbeomflllcaa
open Go.RowKit Tnd

/-- what a call leaves that reads something or tells false: where it tells false, the place is somewhere. -/
def CO (w : World) (B b : Nat) (T : TypeId) (R : List Value) (l : List Int) (o : Option (Int × Nat)) (k : Nat) (e : Ending) (w' : World) : Prop :=
  match o with
  | some x => CP w B b T R l (.tuple #[.int .i64 x.1, .bool true]) (k + x.2) e w'
  | none => ∃ k', CP w B b T R l (.tuple #[.int .i64 0, .bool false]) k' e w'
theorem CO.seq {w w1 : World} {B b : Nat} {T : TypeId} {R : List Value} {l : List Int} {o : Option (Int × Nat)} {k : Nat} {e : Ending} {w' : World} (h : CO w1 B b T R l o k e w') (hg : w.grownBy w1 (some b)) : CO w B b T R l o k e w' := by
  cases o with
  | some x => exact CP.seq h hg
  | none => obtain ⟨k', h⟩ := h; exact ⟨k', CP.seq h hg⟩

theorem i64_and_31 (n : Nat) (h : n < 256) : bits .and .i64 (n : Int) 31 = ((n % 32 : Nat) : Int) := by
  have h2 : n &&& 31 = n % 32 := Nat.and_two_pow_sub_one_eq_mod n 5
  show IntKind.i64.wrap ((BitVec.ofInt 64 (n : Int) &&& BitVec.ofInt 64 (31 : Int)).toNat : Int) = _
  rw [BitVec.toNat_and]
  have e1 : (BitVec.ofInt 64 (n : Int)).toNat = n := by rw [BitVec.ofInt_natCast, BitVec.toNat_ofNat]; exact Nat.mod_eq_of_lt (by omega)
  have e2 : (BitVec.ofInt 64 (31 : Int)).toNat = 31 := by decide
  rw [e1, e2, h2, IntKind.wrap_i64]
  omega
theorem and_31 (p : Int) (h : 0 ≤ p ∧ p < 256) : bits .and .i64 p 31 = p % 32 := by
  obtain ⟨n, rfl⟩ := Int.eq_ofNat_of_zero_le h.1
  rw [i64_and_31 n (by omega)]; omega

set_option maxHeartbeats 800000 in
theorem control_any (B b : Nat) (T : TypeId) (R : List Value) (l : List Int) (k : Nat) (w : World) (h : Cu w B b T R l k) :
    Calls Try.prog 28 #[.pointer (some ⟨b, 0, none⟩)] w (CO w B b T R l (ctlR (l.drop k)) k) := by
  have ho := oneOf_any B b T R l k ⟨letS.toArray⟩ w h (by decide)
  have hls : (⟨letS.toArray⟩ : ByteArray).data.toList = letS := rfl
  rw [hls] at ho
  by_cases hc : k < l.length ∧ amg (gi l k) letS = true
  · rw [if_pos hc, if_pos hc, decide_eq_true hc] at ho
    have hr : ctlR (l.drop k) = some (gi l k % 32, 1) := by rw [drop_cons hc.1]; simp only [ctlR]; rw [if_pos hc.2]
    rw [hr]
    have ha := and_31 _ (amg_byte hc.2)
    obtain ⟨x, hx⟩ : ∃ x, x = gi l k := ⟨_, rfl⟩
    rw [← hx] at ho ha ⊢
    have HO := Lib.hid ho
    clear ho hc hr hls hx h
    unfold letS at HO
    go_enter Try.func28, Try.ntmps28
    go_wp2_with fail
    refine HO.out.mono ?_
    rintro e w1 ⟨rfl, hc, hg⟩
    go_wp2
    go_ret2
    first
      | exact ⟨rfl, hc, hg⟩
      | exact ⟨by rw [ha], hc, hg⟩
  · rw [if_neg hc, if_neg hc, decide_eq_false hc] at ho
    have hr : ctlR (l.drop k) = none := by
      by_cases hk : k < l.length
      · rw [drop_cons hk]; simp only [ctlR]; rw [if_neg (fun h => hc ⟨hk, h⟩)]
      · rw [List.drop_eq_nil_of_le (by omega)]; rfl
    rw [hr]
    have HO := Lib.hid ho
    have ha : bits .and .i64 0 31 = 0 := by decide
    clear ho hc hr hls h
    unfold letS at HO
    go_enter Try.func28, Try.ntmps28
    go_wp2_with fail
    refine HO.out.mono ?_
    rintro e w1 ⟨rfl, hc, hg⟩
    go_wp2
    go_ret2
    exact ⟨k, rfl, hc, hg⟩

set_option maxHeartbeats 800000 in
theorem zero_any (B b : Nat) (T : TypeId) (R : List Value) (l : List Int) (k : Nat) (w : World) (h : Cu w B b T R l k) :
    Calls Try.prog 29 #[.pointer (some ⟨b, 0, none⟩)] w (CO w B b T R l (zerR (l.drop k)) k) := by
  have hp := peek_any B b T R l k w h
  have hls : (⟨digS.toArray⟩ : ByteArray).data.toList = digS := rfl
  by_cases hk : k < l.length
  · have hx : hdR l k = gi l k := by unfold hdR; rw [if_pos hk]
    rw [hx, decide_eq_true hk] at hp
    rw [drop_cons hk]
    simp only [zerR]
    obtain ⟨x, hx⟩ : ∃ x, x = gi l k := ⟨_, rfl⟩
    rw [← hx] at hp ⊢
    have hA : ∀ W, Calls Try.prog 34 #[.int .i64 x, .string ⟨digS.toArray⟩] W fun e w' => e = .returned (.bool (amg x digS)) ∧ w' = W := fun W => by
      have := among_any x ⟨digS.toArray⟩ W (by decide)
      rw [hls] at this; exact this
    by_cases ha : amg x digS = true
    · rw [if_pos ha]
      have HA : Hid (∀ W, Calls Try.prog 34 #[.int .i64 x, .string ⟨digS.toArray⟩] W fun e w' => e = .returned (.bool true) ∧ w' = W) := by rw [ha] at hA; exact hA
      have HP := Lib.hid hp
      clear hp hA ha hx hk hls h
      unfold digS at HA
      go_enter Try.func29, Try.ntmps29
      go_wp2_with fail
      refine HP.out.mono ?_
      rintro e w1 ⟨rfl, hc, hg⟩
      go_wp2_with (go_at_call 34; refine (HA.out _).mono ?_; rintro e w2 ⟨rfl, rfl⟩)
      go_ret2
      exact ⟨k, rfl, hc, hg⟩
    · rw [if_neg ha]
      have ha2 : amg x digS = false := by simpa using ha
      have HA : Hid (∀ W, Calls Try.prog 34 #[.int .i64 x, .string ⟨digS.toArray⟩] W fun e w' => e = .returned (.bool false) ∧ w' = W) := by rw [ha2] at hA; exact hA
      have HP := Lib.hid hp
      clear hp hA ha ha2 hx hk hls h
      unfold digS at HA
      go_enter Try.func29, Try.ntmps29
      go_wp2_with fail
      refine HP.out.mono ?_
      rintro e w1 ⟨rfl, hc, hg⟩
      go_wp2_with (go_at_call 34; refine (HA.out _).mono ?_; rintro e w2 ⟨rfl, rfl⟩)
      go_ret2
      exact ⟨rfl, hc, hg⟩
  · have hx : hdR l k = 0 := by unfold hdR; rw [if_neg hk]
    rw [hx, decide_eq_false hk] at hp
    rw [List.drop_eq_nil_of_le (by omega)]
    have HP := Lib.hid hp
    clear hp hx hk hls h
    go_enter Try.func29, Try.ntmps29
    go_wp2_with fail
    refine HP.out.mono ?_
    rintro e w1 ⟨rfl, hc, hg⟩
    go_wp2
    go_ret2
    exact ⟨rfl, hc, hg⟩

def hexO (m : Nat) (r : List Int) : Option (Int × Nat) := (hexR m r).map fun x => (x, m)
set_option maxHeartbeats 800000 in
theorem hexa_any (B b : Nat) (T : TypeId) (R : List Value) (l : List Int) (k m : Nat) (w : World) (h : Cu w B b T R l k) (hm : m ≤ 4) :
    Calls Try.prog 35 #[.pointer (some ⟨b, 0, none⟩), .int .i64 (m : Nat)] w (CO w B b T R l (hexO m (l.drop k)) k) := by
  have hn := number16_any B b T R l k m w h (by omega)
  have hle := (numR_le 16 1114112 m 0 (l.drop k)).1
  obtain ⟨X, hX⟩ : ∃ X, X = numR 16 1114112 m 0 (l.drop k) := ⟨_, rfl⟩
  rw [← hX] at hn hle
  obtain ⟨p, q⟩ := X
  simp only at hn hle
  have hmI : (m : Int) ≤ 4 := by omega
  have HN := Lib.hid hn
  by_cases hq : q = m
  · have hr : hexO m (l.drop k) = some (p, m) := by
      unfold hexO hexR
      rw [← hX, if_pos hq]; rfl
    rw [hr]
    have hqm : decide ((q : Int) < m) = false := decide_eq_false (by omega)
    have hqn : decide (q < m) = false := decide_eq_false (by omega)
    have hqI : (m : Int) ≤ q := by omega
    have HQ := Lib.hid hq
    clear hn hX hle hr h hm hq
    go_enter Try.func35, Try.ntmps35
    go_wp2_with fail
    refine HN.out.mono ?_
    rintro e w1 ⟨rfl, hc, hg⟩
    go_wp2
    go_ret2
    exact ⟨rfl, hc.at (by rw [HQ.out]), hg⟩
  · have hr : hexO m (l.drop k) = none := by
      unfold hexO hexR
      rw [← hX, if_neg hq]; rfl
    rw [hr]
    have hqm : decide ((q : Int) < m) = true := decide_eq_true (by omega)
    have hqn : decide (q < m) = true := decide_eq_true (by omega)
    have hqI : (q : Int) < m := by omega
    clear hn hX hle hr h hm hq
    go_enter Try.func35, Try.ntmps35
    go_wp2_with fail
    refine HN.out.mono ?_
    rintro e w1 ⟨rfl, hc, hg⟩
    go_wp2
    go_ret2
    exact ⟨_, rfl, hc, hg⟩
set_option maxHeartbeats 800000 in
theorem short_any (B b : Nat) (T : TypeId) (R : List Value) (l : List Int) (k : Nat) (w : World) (h : Cu w B b T R l k) :
    Calls Try.prog 30 #[.pointer (some ⟨b, 0, none⟩)] w (CO w B b T R l (hexO 2 (l.drop k)) k) := by
  have HH := Lib.hid (hexa_any B b T R l k 2 w h (by omega))
  obtain ⟨o, ho⟩ : ∃ o, o = hexO 2 (l.drop k) := ⟨_, rfl⟩
  rw [← ho] at HH ⊢
  clear h ho
  cases o with
  | none =>
    go_enter Try.func30, Try.ntmps30
    go_wp2_with fail
    refine HH.out.mono ?_
    rintro e w1 ⟨k', rfl, hc, hg⟩
    go_wp2
    go_ret2
    exact ⟨k', rfl, hc, hg⟩
  | some x =>
    go_enter Try.func30, Try.ntmps30
    go_wp2_with fail
    refine HH.out.mono ?_
    rintro e w1 ⟨rfl, hc, hg⟩
    go_wp2
    go_ret2
    exact ⟨rfl, hc, hg⟩

def lowO (hi : Int) (r : List Int) : Option (Int × Nat) := (lowR hi r).map fun x => (x, 6)
set_option maxHeartbeats 800000 in
theorem lower2_any (B b : Nat) (T : TypeId) (R : List Value) (l : List Int) (k : Nat) (hi : Int) (w : World) (h : Cu w B b T R l k) :
    Calls Try.prog 38 #[.pointer (some ⟨b, 0, none⟩), .int .i64 hi] w (CO w B b T R l (lowO hi (l.drop k)) k) := by
  have ht := take_any B b T R l k ⟨#[92, 117]⟩ w h (by decide)
  have hls : (⟨#[92, 117]⟩ : ByteArray).data.toList = [92, 117] := rfl
  rw [hls] at ht
  unfold lowO lowR
  by_cases hp : pre [92, 117] (l.drop k) = true
  · rw [if_pos hp]
    rw [if_pos hp, hp] at ht
    have HT := Lib.hid ht
    have HH : Hid (∀ w1 : World, Cu w1 B b T R l (k + 2) → Calls Try.prog 35 #[.pointer (some ⟨b, 0, none⟩), .int .i64 4] w1 (CO w1 B b T R l (hexO 4 ((l.drop k).drop 2)) (k + 2))) := fun w1 h1 => by
      rw [List.drop_drop]; exact hexa_any B b T R l (k + 2) 4 w1 h1 (by omega)
    unfold hexO at HH
    obtain ⟨o, ho⟩ : ∃ o, o = hexR 4 ((l.drop k).drop 2) := ⟨_, rfl⟩
    rw [← ho] at HH ⊢
    clear ht hp hls ho h
    cases o with
    | none =>
      go_enter Try.func38, Try.ntmps38
      go_wp2_with fail
      refine HT.out.mono ?_
      rintro e w1 ⟨rfl, hc, hg⟩
      have HC := Lib.hid hc
      have HG := Lib.hid hg
      clear hc hg
      go_wp2_with fail
      refine (HH.out _ HC.out).mono ?_
      rintro e w2 ⟨k', rfl, hc, hg⟩
      go_wp2
      go_ret2
      exact ⟨k', rfl, hc, HG.out.trans hg⟩
    | some lo =>
      simp only
      by_cases hpo : (55296 ≤ hi ∧ hi < 56320) ∧ 56320 ≤ lo ∧ lo ≤ 57343
      · rw [if_pos hpo]
        have HPO := Lib.hid hpo
        clear hpo
        go_enter Try.func38, Try.ntmps38
        go_wp2_with fail
        refine HT.out.mono ?_
        rintro e w1 ⟨rfl, hc, hg⟩
        have HC := Lib.hid hc
        have HG := Lib.hid hg
        clear hc hg
        go_wp2_with fail
        refine (HH.out _ HC.out).mono ?_
        rintro e w2 ⟨rfl, hc, hg⟩
        have HC2 := Lib.hid hc
        have HG2 := Lib.hid hg
        clear hc hg
        go_wp2_with (go_at_call 7; refine (pair_yes _ _ _ HPO.out).mono ?_; rintro e w3 ⟨rfl, rfl⟩)
        go_ret2
        exact ⟨rfl, HC2.out, HG.out.trans HG2.out⟩
      · rw [if_neg hpo]
        have HPO := Lib.hid hpo
        clear hpo
        go_enter Try.func38, Try.ntmps38
        go_wp2_with fail
        refine HT.out.mono ?_
        rintro e w1 ⟨rfl, hc, hg⟩
        have HC := Lib.hid hc
        have HG := Lib.hid hg
        clear hc hg
        go_wp2_with fail
        refine (HH.out _ HC.out).mono ?_
        rintro e w2 ⟨rfl, hc, hg⟩
        have HC2 := Lib.hid hc
        have HG2 := Lib.hid hg
        clear hc hg
        go_wp2_with (go_at_call 7; refine (pair_no _ _ _ HPO.out).mono ?_; rintro e w3 ⟨rfl, rfl⟩)
        go_ret2
        exact ⟨_, rfl, HC2.out, HG.out.trans HG2.out⟩
  · rw [if_neg hp]
    have hp2 : pre [92, 117] (l.drop k) = false := by simpa using hp
    rw [if_neg hp, hp2] at ht
    have HT := Lib.hid ht
    clear ht hp hp2 hls h
    go_enter Try.func38, Try.ntmps38
    go_wp2_with fail
    refine HT.out.mono ?_
    rintro e w1 ⟨rfl, hc, hg⟩
    go_wp2
    go_ret2
    exact ⟨k, rfl, hc, hg⟩
end Go.Proofs.Ytnedbeomflllcaa
