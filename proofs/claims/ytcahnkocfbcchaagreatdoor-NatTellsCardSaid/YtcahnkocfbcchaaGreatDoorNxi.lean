/- NatPowers: its own walk. -/
import Derived.Test.YtcahnkocfbcchaaGreatDoorNxa
import Derived.Test.YtcahnkocfbcchaaGreatDoorNxh
import Derived.Test.YtcahnkocfbcchaaGreatDoorWx

namespace Go.Proofs.YtcahnkocfbcchaaGreatDoor
open Go.RowKit Tnd

def blk (p : Option Addr) : Option Nat := p.map Addr.block
theorem blk_ad (p : Option Nat) : blk (p.map fun b => (⟨b, 0, none⟩ : Addr)) = p := by cases p <;> rfl
/-- a row of the call's own, as a row handed out. -/
theorem own_d {w : World} {B sz n m c : Nat} {T : TypeId} {p : Option Addr} {xs : List Value} (h : w.ownsRow B T sz (.slice p m c) n xs) :
    Value.slice p m c = D.val ⟨blk p, m, c⟩ ∧ Room w sz ⟨blk p, m, c⟩ ∧ ∀ b, blk p = some b → b < w.heap.size ∧ B ≤ b ∧ ∃ cur, w.heap[b]? = some (.cells cur T (0, 0)) := by
  obtain ⟨d, h1, h2, h3, _, h5⟩ := room_of_own h
  obtain ⟨dp, dn, dc⟩ := d
  simp only [D.val, D.ad, Value.slice.injEq] at h1
  obtain ⟨rfl, rfl, rfl⟩ := h1
  rw [blk_ad]
  refine ⟨rfl, h3, fun b e => ⟨h3.lt b e, h5 b e, ?_⟩⟩
  rcases h.2 with ⟨e1, _⟩ | ⟨g, cap, cur, e1, _, hh, _⟩
  · simp only [Value.slice.injEq] at e1
    rw [e] at e1; simp at e1
  · simp only [Value.slice.injEq] at e1
    rw [e] at e1
    simp only [Option.map_some, Option.some.injEq, Addr.mk.injEq] at e1
    obtain ⟨⟨rfl, _⟩, _⟩ := e1
    exact ⟨cur, hh⟩
theorem nat_val {q : Option Addr} {x d : Nat} {W : World} {B m : Nat} (hf : FNat W B (.agg #[.slice q x d]) m) (hm : m < tooBig) : x ≤ 2000 := by
  obtain ⟨p, c, k, e, _, _, hr, hv⟩ := hf
  simp only [Value.agg.injEq, Array.mk.injEq, List.cons.injEq, Value.slice.injEq, and_true] at e
  obtain ⟨rfl, rfl, rfl⟩ := e
  by_cases h : 2000 < k.length
  · have := big_of_len hr h; omega
  · omega
theorem fnat_own {W : World} {B m x d : Nat} {q : Option Addr} (hf : FNat W B (.agg #[.slice q x d]) m) : ∃ k : List Nat, x = k.length ∧ Own W B 46 .u32 (.slice q x d) k := by
  obtain ⟨p, c, k, e, ho, _⟩ := hf
  simp only [Value.agg.injEq, Array.mk.injEq, List.cons.injEq, Value.slice.injEq, and_true] at e
  obtain ⟨rfl, rfl, rfl⟩ := e
  exact ⟨k, rfl, ho⟩
end Go.Proofs.YtcahnkocfbcchaaGreatDoor
