/- The walks of nat's numbers at work: minus, nat, row; and of Sub, Add, Of. What each call tells: a number in memory of the call's own, and that nothing older changes. -/
import Derived.Test.YtcahnkocfbcchaaGreatDoorWc

namespace Go.Proofs.YtcahnkocfbcchaaGreatDoor
open Go.RowKit Tnd

/-- a Nat that is right, in memory of the call's own: it stands for n. -/
def FNat (w : World) (B : Nat) (v : Value) (n : Nat) : Prop :=
  ∃ p c l, v = .agg #[.slice p l.length c] ∧ Own w B 46 .u32 (.slice p l.length c) l ∧ Digs 4294967296 l ∧ RightL l ∧ nv 4294967296 l = n

theorem own_take {w : World} {B : Nat} {e : TypeId} {k : IntKind} {p : Option Addr} {n c : Nat} {l : List Nat} (h : Own w B e k (.slice p n c) l) (j : Nat) (hj : j ≤ l.length) : Own w B e k (.slice p j c) (l.take j) := by
  have hlen : (l.take j).length = j := by rw [List.length_take]; omega
  unfold Own
  rw [hlen]
  rcases h.2 with ⟨h', hn⟩ | ⟨g, cap, cur, h', hb, hg, hnc, hcm, hcs, htake⟩
  · have e0 : j = 0 := by omega
    subst e0
    simp only [Value.slice.injEq] at h'
    obtain ⟨rfl, rfl, rfl⟩ := h'
    exact World.ownsRow_nil w B e 1
  · simp only [Value.slice.injEq] at h'
    obtain ⟨rfl, rfl, rfl⟩ := h'
    refine ⟨by simp; omega, .inr ⟨g, c, cur, rfl, hb, hg, by omega, hcm, hcs, ?_⟩⟩
    rw [List.map_take, ← htake, List.take_take, Nat.mul_one, Nat.mul_one, Nat.min_eq_left hj]

theorem own_below {w w' : World} {B : Nat} {e : TypeId} {k : IntKind} {v : Value} {l : List Nat} (h : Own w B e k v l) (hb : Below w.heap.size w w') : Own w' B e k v l := by
  refine ⟨h.1, ?_⟩
  rcases h.2 with hn | ⟨g, cap, cur, rfl, hb2, hg, rest⟩
  · exact .inl hn
  · exact .inr ⟨g, cap, cur, rfl, hb2, by rw [hb.block g (lt_of_block hg)]; exact hg, rest⟩
theorem FNat.below {w w' : World} {B : Nat} {v : Value} {n : Nat} (h : FNat w B v n) (hb : Below w.heap.size w w') : FNat w' B v n := by
  obtain ⟨p, c, l, rfl, ho, hd, hr, hn⟩ := h
  exact ⟨p, c, l, rfl, own_below ho hb, hd, hr, hn⟩
theorem FNat.setCell {w : World} {B : Nat} {v : Value} {n : Nat} (h : FNat w B v n) {b : Nat} {cs : Array Value} {T : TypeId} {fz : Nat × Nat} (hb : w.heap[b]? = some (.cells cs T fz)) (hT : T ≠ 46) (u : Value) : FNat (w.setCell ⟨b, 0, none⟩ u) B v n := by
  obtain ⟨p, c, l, rfl, ho, hd, hr, hn⟩ := h
  exact ⟨p, c, l, rfl, ownsRow_setCell_other ho (own_ne ho hb hT) _, hd, hr, hn⟩
theorem FNat.down {w : World} {B B' : Nat} {v : Value} {n : Nat} (h : FNat w B v n) (hb : B' ≤ B) : FNat w B' v n := by
  obtain ⟨p, c, l, rfl, ho, hd, hr, hn⟩ := h
  exact ⟨p, c, l, rfl, own_down ho hb, hd, hr, hn⟩

set_option maxRecDepth 100000 in
theorem nat_any (B : Nat) (s : Value) (l : List Nat) (w : World) (hown : Own w B 46 .u32 s l) (hd : Digs 4294967296 l) (_hB : B ≤ w.heap.size) (_hl : l.length ≤ 1000000000000) :
    Calls Tryz.prog 33 #[.agg #[s]] w fun e w' => ∃ v, e = .returned v ∧ FNat w' B v (nv 4294967296 l) ∧ Below w.heap.size w w' := by
  obtain ⟨p, c, rfl, hlc, hcm, hnil, hsl, hob⟩ := own_form hown
  have hrt := fun w1 => right_any p l c w1
  have hlt := tlen_le l
  have HO := Lib.hid hown
  have HD := Lib.hid hd
  have HRT := Lib.hid hrt
  clear hown hd hrt hob hsl
  have HN := Lib.hid hnil
  clear hnil
  go_enter Tryz.func33, Tryz.ntmps33
  have hO2 : Own ((w.alloc (.cells #[.slice p l.length c] 54)).alloc (.cells #[.slice none 0 0] 24)) B 46 .u32 (.slice p l.length c) l := (HO.out.alloc _).alloc _
  have hsl2 : Sl ((w.alloc (.cells #[.slice p l.length c] 54)).alloc (.cells #[.slice none 0 0] 24)) .u32 p l := by
    obtain ⟨p', c', he, _, _, _, h, _⟩ := own_form hO2
    simp only [Value.slice.injEq] at he
    obtain ⟨rfl, _, _⟩ := he
    exact h
  have HR := Lib.hid (HRT.out _ hsl2 hlc hcm HN.out)
  have hval := nv_tlen 4294967296 l
  have hrt := right_take_tlen l
  have HV := Lib.hid hval
  have HRI := Lib.hid hrt
  clear hO2 hsl2 hval hrt
  generalize tlen l = t at *
  go_wp2_with fail
  refine HR.out.mono ?_
  rintro e w' ⟨rfl, rfl⟩
  cases t with
  | zero =>
    go_wp2
    refine bodyPost_ret (v := .agg #[.slice none 0 0]) (by simp [results, Tryz.results33, go_sem]) rfl ?_
    refine ⟨_, rfl, ⟨none, 0, [], rfl, own_nil _ _ _ _, by simp [Digs], right_nil, ?_⟩, ((Below.refl _ _).alloc (Nat.le_refl _) _).alloc (by simp) _⟩
    rw [← HV.out]; rfl
  | succ t =>
    go_wp2
    refine bodyPost_ret (v := .agg #[.slice p (t + 1) c]) (by simp [results, Tryz.results33, go_sem]) rfl ?_
    have hlt1 : (l.take (t + 1)).length = t + 1 := by rw [List.length_take]; omega
    refine ⟨_, rfl, ⟨p, c, l.take (t + 1), by rw [hlt1], by rw [hlt1]; exact own_take ((HO.out.alloc _).alloc _) (t + 1) hlt, digs_take HD.out _, HRI.out, HV.out⟩, ((Below.refl _ _).alloc (Nat.le_refl _) _).alloc (by simp) _⟩

/-- a Nat that came in: it reads as these digits, right or not. -/
def NatIn (w : World) (B : Nat) (v : Value) (l : List Nat) : Prop :=
  ∃ p c, v = .agg #[.slice p l.length c] ∧ Old w B p l ∧ Digs 4294967296 l ∧ l.length ≤ c ∧ c ≤ 9223372036854775807 ∧ (p = none → c = 0)
theorem NatIn.below {w w' : World} {B : Nat} {v : Value} {l : List Nat} (h : NatIn w B v l) (hb : Below B w w') : NatIn w' B v l := by
  obtain ⟨p, c, h1, h2, h3⟩ := h
  exact ⟨p, c, h1, h2.below hb, h3⟩
theorem Old.up {w : World} {B B' : Nat} {p : Option Addr} {l : List Nat} (h : Old w B p l) (hb : B ≤ B') : Old w B' p l := by
  rcases h with h | ⟨b, off, h1, h2, h3⟩
  · exact .inl h
  · exact .inr ⟨b, off, h1, by omega, h3⟩
theorem NatIn.up {w : World} {B B' : Nat} {v : Value} {l : List Nat} (h : NatIn w B v l) (hb : B ≤ B') : NatIn w B' v l := by
  obtain ⟨p, c, h1, h2, h3⟩ := h
  exact ⟨p, c, h1, h2.up hb, h3⟩
theorem Old.sl {w : World} {B : Nat} {p : Option Addr} {l : List Nat} (h : Old w B p l) : Sl w .u32 p l := by
  rcases h with h | ⟨b, off, h1, h2, h3⟩
  · exact .inl h
  · exact .inr ⟨b, off, h1, h3⟩
theorem Old.take {w : World} {B : Nat} {p : Option Addr} {l : List Nat} (h : Old w B p l) (j : Nat) : Old w B p (l.take j) := by
  rcases h with h | ⟨b, off, h1, h2, h3⟩
  · exact .inl (by rw [h]; simp)
  · refine .inr ⟨b, off, h1, h2, fun i hi => ?_⟩
    rw [List.length_take] at hi
    rw [h3 i (by omega)]
    simp only [gd, List.getD_eq_getElem?_getD, List.getElem?_take]
    rw [if_pos (by omega)]

theorem row_any (v : Value) (l : List Nat) (B : Nat) (w : World) (h : NatIn w B v l) (hB : B ≤ w.heap.size) :
    Calls Tryz.prog 31 #[v] w fun e w' => ∃ p c, e = .returned (.slice p (tlen l) c) ∧ Old w' B p (l.take (tlen l)) ∧ Below w.heap.size w w' ∧ tlen l ≤ c ∧ c ≤ 9223372036854775807 ∧ (p = none → c = 0) := by
  obtain ⟨p, c, rfl, ho, hd, hlc, hcm, hnil⟩ := h
  have ho1 := ho.below (((Below.refl B w)).alloc hB (.cells #[.slice p l.length c] 24))
  have hr := right_any p l c _ ho1.sl hlc hcm hnil
  have HR := Lib.hid hr
  have HO := Lib.hid (ho1.take (tlen l))
  have HN := Lib.hid hnil
  have htl := tlen_le l
  clear hr ho ho1 hd hnil
  go_enter Tryz.func31, Tryz.ntmps31
  go_wp2_with fail
  refine HR.out.mono ?_
  rintro e w' ⟨rfl, rfl⟩
  go_wp2
  go_ret
  exact ⟨p, c, rfl, HO.out, (Below.refl _ _).alloc (Nat.le_refl _) _, by omega, hcm, HN.out⟩

/-- row, to the letter: the same slice, cut; one new block. -/
theorem row_exact (p : Option Addr) (l : List Nat) (c : Nat) (w : World) (ho : Sl w .u32 p l) (hlc : l.length ≤ c) (hcm : c ≤ 9223372036854775807) (hnil : p = none → c = 0) :
    Calls Tryz.prog 31 #[.agg #[.slice p l.length c]] w fun e w' => e = .returned (.slice p (tlen l) c) ∧ w.alloc (.cells #[.slice p l.length c] 24) = w' := by
  have ho1 : Sl (w.alloc (.cells #[.slice p l.length c] 24)) .u32 p l := by
    rcases ho with h | ⟨b, off, h1, h2⟩
    · exact .inl h
    · exact .inr ⟨b, off, h1, fun i hi => by rw [World.cell?_alloc_past _ _ _ (by simpa using World.block_lt_of_cell? w _ (h2 i hi))]; exact h2 i hi⟩
  have HR := Lib.hid (right_any p l c _ ho1 hlc hcm hnil)
  clear ho ho1 hnil
  go_enter Tryz.func31, Tryz.ntmps31
  go_wp2_with fail
  refine HR.out.mono ?_
  rintro e w' ⟨rfl, rfl⟩
  go_wp2
  go_ret
  exact ⟨rfl, rfl⟩
end Go.Proofs.YtcahnkocfbcchaaGreatDoor
