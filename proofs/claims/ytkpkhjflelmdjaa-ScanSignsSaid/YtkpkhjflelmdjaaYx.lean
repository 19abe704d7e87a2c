/- What an ask tells of what stands behind a scan's place. -/
import Derived.Test.YtkpkhjflelmdjaaYu
namespace Go.Proofs.Ytkpkhjflelmdjaa
open Go.RowKit Tnd

def noB : ByteArray := ⟨#[]⟩
/-- what an ask tells of what stands next: two numbers, a text, whether it is; how far is read. -/
def askR (c : Nat) (t : List UInt8) (r : List Int) : Int × Int × ByteArray × Bool × Nat :=
  match c with
  | 0 => match r with
    | p :: _ => (p, 0, noB, true, 1)
    | [] => (0, 0, noB, false, 0)
  | 1 => (0, 0, noB, pre t r, if pre t r = true then t.length else 0)
  | 2 => match r with
    | p :: _ => if amg p t = true then (p, 0, noB, true, 1) else (0, 0, noB, false, 0)
    | [] => (0, 0, noB, false, 0)
  | 3 => ((numR 10 1073741824 r.length 0 r).1, ((numR 10 1073741824 r.length 0 r).2 : Nat), noB, false, (numR 10 1073741824 r.length 0 r).2)
  | 4 => match escR r with
    | some x => (x.1, 0, noB, true, x.2)
    | none => (0, 0, noB, false, 0)
  | 5 => match namR r with
    | some s => (0, 0, ⟨s.toArray⟩, true, s.length + 1)
    | none => (0, 0, noB, false, 0)
  | 6 => match r with
    | p :: _ => (p, 0, noB, true, 0)
    | [] => (0, 0, noB, false, 0)
  | _ => (0, 0, noB, false, 0)
/-- what an ask leaves. -/
def AP (w : World) (B b : Nat) (l : List Int) (k : Nat) (a : Int × Int × ByteArray × Bool × Nat) (e : Ending) (w' : World) : Prop := TP w B b l a.1 a.2.1 a.2.2.1 a.2.2.2.1 (k + a.2.2.2.2) e w'
theorem gi_drop {l : List Int} {k : Nat} (h : k < l.length) : ∃ t, l.drop k = gi l k :: t := ⟨_, drop_cons h⟩
theorem TP.at {w : World} {B b : Nat} {l : List Int} {n m : Int} {s : ByteArray} {o : Bool} {k k' : Nat} {e : Ending} {w' : World} (h : TP w B b l n m s o k e w') (hk : k = k') : TP w B b l n m s o k' e w' := hk ▸ h
theorem tells_any (B b : Nat) (l : List Int) (k : Nat) (y : Int) (t : ByteArray) (w : World) (h : Sc w B b l k) (ht : t.size ≤ 1000000) :
    Calls Try.prog 16 #[.pointer (some ⟨b, 0, none⟩), .agg #[.int .i64 y, .string t]] w (AP w B b l k (askR (pk y) t.data.toList (l.drop k))) := by
  have hl := pk_lt y
  have hts : t.data.toList.length = t.size := by simp
  have hc : pk y = 0 ∨ pk y = 1 ∨ pk y = 2 ∨ pk y = 3 ∨ pk y = 4 ∨ pk y = 5 ∨ pk y = 6 ∨ pk y = 7 := by omega
  rcases hc with e | e | e | e | e | e | e | e
  · have key := tells_0 B b l k y t (hdR l k) (decide (k < l.length)) (if k < l.length then k + 1 else k) w h e (fun W hW => Next_scan B b l k _ _ _ W hW (next_any B b _ _ l k W hW))
    rw [e]
    by_cases hk : k < l.length
    · rw [drop_cons hk]
      rw [if_pos hk, decide_eq_true hk, show hdR l k = gi l k by unfold hdR; rw [if_pos hk]] at key
      exact key
    · rw [List.drop_eq_nil_of_le (by omega)]
      rw [if_neg hk, decide_eq_false hk, show hdR l k = 0 by unfold hdR; rw [if_neg hk]] at key
      exact key
  · have key := tells_1 B b l k y t (pre t.data.toList (l.drop k)) (if pre t.data.toList (l.drop k) = true then k + t.size else k) w h e (fun W hW => Take_scan B b l k t _ _ W hW (take_any B b _ _ l k t W hW ht))
    rw [e]
    refine key.mono fun e' w' hp => ?_
    exact hp.at (by simp only [askR]; split <;> omega)
  · have key := tells_2 B b l k y t _ _ _ w h e (fun W hW => Any_scan B b l k t _ _ _ W hW (oneOf_any B b _ _ l k t W hW ht))
    rw [e]
    by_cases hk : k < l.length
    · rw [drop_cons hk]
      by_cases ha : amg (gi l k) t.data.toList = true
      · rw [if_pos ⟨hk, ha⟩, if_pos ⟨hk, ha⟩, decide_eq_true (show k < l.length ∧ amg (gi l k) t.data.toList = true from ⟨hk, ha⟩)] at key
        simp only [askR, if_pos ha]
        exact key
      · rw [if_neg (fun h => ha h.2), if_neg (fun h => ha h.2), decide_eq_false (fun h => ha h.2)] at key
        simp only [askR, if_neg ha]
        exact key
    · rw [List.drop_eq_nil_of_le (by omega)]
      rw [if_neg (fun h => hk h.1), if_neg (fun h => hk h.1), decide_eq_false (fun h => hk h.1)] at key
      exact key
  · rw [e]
    exact tells_3 B b l k y t _ _ _ w h e (fun W hW => Decimal_scan B b l k _ _ _ W hW (decimal_any B b _ _ l k W hW))
  · rw [e]
    simp only [askR]
    cases he : escR (l.drop k) with
    | some x => exact tells_4 B b l k y t x.1 true (k + x.2) w h e (fun W hW => escape_lit hW he)
    | none => exact tells_4 B b l k y t 0 false k w h e (fun W hW => escape_lit_no hW he)
  · rw [e]
    simp only [askR]
    cases he : namR (l.drop k) with
    | some s =>
      refine (tells_5 B b l k y t ⟨s.toArray⟩ true (k + s.length + 1) w h e (fun W hW => Name_scan B b l k _ _ _ W hW (by have := name_any B b _ _ l k W hW; rw [he] at this; exact this))).mono fun e' w' hp => ?_
      exact hp.at (by simp only; omega)
    | none => exact tells_5 B b l k y t noB false k w h e (fun W hW => Name_scan B b l k _ _ _ W hW (by have := name_any B b _ _ l k W hW; rw [he] at this; exact this))
  · have key := tells_6 B b l k y t (hdR l k) (decide (k < l.length)) k w h e (fun W hW => Peek_scan B b l k _ _ _ W hW (peek_any B b _ _ l k W hW))
    rw [e]
    by_cases hk : k < l.length
    · rw [drop_cons hk]
      rw [decide_eq_true hk, show hdR l k = gi l k by unfold hdR; rw [if_pos hk]] at key
      exact key
    · rw [List.drop_eq_nil_of_le (by omega)]
      rw [decide_eq_false hk, show hdR l k = 0 by unfold hdR; rw [if_neg hk]] at key
      exact key
  · rw [e]
    exact tells_7 B b l k y t w h e

/-- what tells false, and no number, reads nothing. -/
theorem ask_still (c : Nat) (t : List UInt8) (r : List Int) (h1 : (askR c t r).2.2.2.1 = false) (h2 : (askR c t r).2.1 = 0) : (askR c t r).2.2.2.2 = 0 := by
  unfold askR at *
  split at h1 <;> (try split at h1) <;> (try split at h1) <;> simp_all
/-- no more is read than stands there. -/
theorem ask_far {w w' : World} {B b : Nat} {l : List Int} {k : Nat} {a : Int × Int × ByteArray × Bool × Nat} {e : Ending} (h : AP w B b l k a e w') : k + a.2.2.2.2 ≤ l.length := h.2.1.le.2.1
end Go.Proofs.Ytkpkhjflelmdjaa
