/- The walks of a scan's decimal and name; Clone; a scan in memory of its own. -/
import Derived.Test.YtnedbeomflllcaaYl
namespace Go.Proofs.Ytnedbeomflllcaa
open Go.RowKit Tnd

set_option maxHeartbeats 1600000 in
theorem decimal_any (B b : Nat) (T : TypeId) (R : List Value) (l : List Int) (k : Nat) (w : World) (h : Cu w B b T R l k) :
    Calls Try.prog 21 #[.pointer (some ⟨b, 0, none⟩)] w (CP w B b T R l (.tuple #[.int .i64 (numR 10 1073741824 (l.drop k).length 0 (l.drop k)).1, .int .i64 ((numR 10 1073741824 (l.drop k).length 0 (l.drop k)).2 : Nat)]) (k + (numR 10 1073741824 (l.drop k).length 0 (l.drop k)).2)) := by
  have hn := number10_any B b T R l k l.length w h (by have := h.le; omega)
  rw [numR_more 10 1073741824 l.length (l.drop k).length 0 (l.drop k) (by rw [List.length_drop]; omega) (Nat.le_refl _)] at hn
  obtain ⟨p, c, hc0, hc1, -, -⟩ := h.copy
  obtain ⟨_, hkl, hlm⟩ := h.le
  generalize numR 10 1073741824 (l.drop k).length 0 (l.drop k) = X at *
  obtain ⟨a, d⟩ := X
  simp only at hn ⊢
  obtain ⟨n, hnl⟩ : ∃ n, n = l.length := ⟨_, rfl⟩
  rw [← hnl] at hn hc0 hlm
  have hnI : (n : Int) ≤ 1000000 := by omega
  have HN := Lib.hid hn
  clear hn hnl h hkl
  go_enter Try.func21, Try.ntmps21
  go_wp2_with fail
  refine HN.out.mono ?_
  rintro e w1 ⟨rfl, hc, hg⟩
  go_wp2
  go_ret2
  exact ⟨rfl, hc, hg⟩

/-- what a name's call leaves. -/
def NP (w : World) (B b : Nat) (T : TypeId) (R : List Value) (l : List Int) (o : Option (List UInt8)) (k : Nat) (e : Ending) (w' : World) : Prop :=
  match o with
  | some s => CP w B b T R l (.tuple #[.string ⟨s.toArray⟩, .bool true]) (k + s.length + 1) e w'
  | none => CP w B b T R l (.tuple #[.string ⟨#[]⟩, .bool false]) k e w'

def nameHead : String := ""
end Go.Proofs.Ytnedbeomflllcaa
