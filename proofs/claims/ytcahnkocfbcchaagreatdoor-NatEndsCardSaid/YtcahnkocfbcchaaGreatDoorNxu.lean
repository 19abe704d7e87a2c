/- NatTells: its drawn regions, in any order of their operations. -/
/- NatTells: its drawn region 7, in any order of its operations. -/
import Derived.Test.YtcahnkocfbcchaaGreatDoorNxs
import Derived.Test.YtcahnkocfbcchaaGreatDoorFk
import Derived.Test.YtcahnkocfbcchaaGreatDoorNo

namespace Go.Proofs.YtcahnkocfbcchaaGreatDoor
open Go.RowKit Tnd

def Kc.nbox (z : Nat) (T : TypeId) (cs : Array Value) : Kc := ⟨fun v w => ∃ b : Nat, v = .pointer (some ⟨b, 0, none⟩) ∧ z ≤ b ∧ Bx w b T cs, fun ⟨b, h1, h2, h3⟩ hb => ⟨b, h1, h2, h3.below hb⟩⟩
def Kc.lent (B n : Nat) (l : List Nat) : Kc := ⟨fun v w => ∃ g cap, v = .agg #[.slice (some ⟨g, 0, none⟩) n cap] ∧ LentL w B g cap l, fun ⟨g, cap, h1, h2⟩ hb => ⟨g, cap, h1, h2.below hb⟩⟩
def Kc.fnat (B m : Nat) : Kc := ⟨fun v w => ∃ B' q n c, B ≤ B' ∧ v = .agg #[.slice q n c] ∧ FNat w B' (.agg #[.slice q n c]) m, fun ⟨B', q, n, c, h1, h2, h3⟩ hb => ⟨B', q, n, c, h1, h2, h3.below hb⟩⟩
def Kc.lst1 (z : Nat) (u : Value) : Kc := ⟨fun v w => ∃ b : Nat, v = .slice (some ⟨b, 0, none⟩) 1 1 ∧ z ≤ b ∧ Bx w b 24 #[u], fun ⟨b, h1, h2, h3⟩ hb => ⟨b, h1, h2, h3.below hb⟩⟩
theorem put_swap (a : Act) (s t : Nat) (u v : Value) (h : s ≠ t) : (a.put (some s) u).put (some t) v = (a.put (some t) v).put (some s) u := by
  unfold Act.put
  show ({ a with tmps := (a.tmps.setIfInBounds s u).setIfInBounds t v } : Act) = { a with tmps := (a.tmps.setIfInBounds t v).setIfInBounds s u }
  rw [Array.setIfInBounds_comm _ _ h]
theorem any_two {P : Program} {ops : Array Oper} {Q : Exit → Act → World → Prop} {md : Region.Mode} {i j fuel : Nat} {o o' : Oper} {done : Array Bool} {a : Act} {w : World} (hr : Region.ready md ops done = [i, j]) (ho : ops[i]? = some o) (ho' : ops[j]? = some o')
    (h : if Region.wanted o (yielded ops a.tmps) = true then o.wp P a w (wpAny P md ops Q fuel (done.setIfInBounds i true)) Q else wpAny P md ops Q fuel (done.setIfInBounds i true) (a.put o.dst undef) w)
    (h' : if Region.wanted o' (yielded ops a.tmps) = true then o'.wp P a w (wpAny P md ops Q fuel (done.setIfInBounds j true)) Q else wpAny P md ops Q fuel (done.setIfInBounds j true) (a.put o'.dst undef) w) : wpAny P md ops Q (fuel + 1) done a w := by
  refine ⟨fun h0 => absurd (hr ▸ h0) (by simp), fun k hk => ?_⟩
  rw [hr] at hk
  simp only [List.mem_cons, List.not_mem_nil, or_false] at hk
  unfold wpOp
  rcases hk with rfl | rfl
  · simp only [ho]
    split
    · rename_i hw
      rw [if_pos hw] at h
      exact .inl h
    · rename_i hw
      rw [if_neg hw] at h
      exact h
  · simp only [ho']
    split
    · rename_i hw
      rw [if_pos hw] at h'
      exact .inl h'
    · rename_i hw
      rw [if_neg hw] at h'
      exact h'
/-- two cells that are laid are two. -/
def Twq (p q : Nat) (done : Array Bool) (f : Nat → Value) : Prop := done.getD p false = true → done.getD q false = true → f p ≠ f q
theorem Twq.keep {p q i : Nat} {done : Array Bool} {f : Nat → Value} {u : Value} (h : Twq p q done f) (h1 : i ≠ p) (h2 : i ≠ q) : Twq p q (done.setIfInBounds i true) (upd f i u) := by
  intro a b
  have e : ∀ j, i ≠ j → (done.setIfInBounds i true).getD j false = done.getD j false := fun j hj => by
    simp only [Array.getD_eq_getD_getElem?, Array.getElem?_setIfInBounds, if_neg hj]
  rw [e p h1] at a
  rw [e q h2] at b
  have h3 := h a b
  unfold upd
  rw [if_neg (Ne.symm h1), if_neg (Ne.symm h2)]
  exact h3
theorem Twq.fst {p q : Nat} {done : Array Bool} {f : Nat → Value} {u : Value} (hpq : p ≠ q) (h : done.getD q false = true → f q ≠ u) : Twq p q (done.setIfInBounds p true) (upd f p u) := by
  intro _ b
  have e : (done.setIfInBounds p true).getD q false = done.getD q false := by
    simp only [Array.getD_eq_getD_getElem?, Array.getElem?_setIfInBounds, if_neg hpq]
  rw [e] at b
  have h3 := h b
  unfold upd
  rw [if_pos rfl, if_neg (Ne.symm hpq)]
  exact h3.symm
theorem Twq.snd {p q : Nat} {done : Array Bool} {f : Nat → Value} {u : Value} (hpq : p ≠ q) (h : done.getD p false = true → f p ≠ u) : Twq p q (done.setIfInBounds q true) (upd f q u) := by
  intro b _
  have e : (done.setIfInBounds q true).getD p false = done.getD p false := by
    simp only [Array.getD_eq_getD_getElem?, Array.getElem?_setIfInBounds, if_neg (Ne.symm hpq)]
  rw [e] at b
  have h3 := h b
  unfold upd
  rw [if_pos rfl, if_neg hpq]
  exact h3
theorem nbox_new {w : World} {z : Nat} {T : TypeId} {cs : Array Value} {v : Value} (h : (Kc.nbox z T cs).P v w) : v ≠ .pointer (some ⟨w.heap.size, 0, none⟩) := by
  obtain ⟨b, rfl, _, h3⟩ := h
  intro e
  simp only [Value.pointer.injEq, Option.some.injEq, Addr.mk.injEq, and_true] at e
  have := h3.lt
  omega
/-- two numbers' digits lie apart. -/
def Apt (u v : Value) : Prop := ∀ q n c q' n' c' b, u = .agg #[.slice q n c] → v = .agg #[.slice q' n' c'] → blk q = some b → blk q' ≠ some b
def Hap (p q : Nat) (done : Array Bool) (f : Nat → Value) : Prop := done.getD q false = true → done.getD p false = true ∧ Apt (f p) (f q)
theorem done_ne {done : Array Bool} {i j : Nat} (h : i ≠ j) : (done.setIfInBounds i true).getD j false = done.getD j false := by
  simp only [Array.getD_eq_getD_getElem?, Array.getElem?_setIfInBounds, if_neg h]
theorem Hap.keep {p q i : Nat} {done : Array Bool} {f : Nat → Value} {u : Value} (h : Hap p q done f) (h1 : i ≠ p) (h2 : i ≠ q) : Hap p q (done.setIfInBounds i true) (upd f i u) := by
  intro a
  rw [done_ne h2] at a
  rw [done_ne h1]
  unfold upd
  rw [if_neg (Ne.symm h1), if_neg (Ne.symm h2)]
  exact h a
theorem Hap.fst {p q : Nat} {done : Array Bool} {f : Nat → Value} {u : Value} (hpq : p ≠ q) (h : Hap p q done f) (hn : done.getD p false = false) : Hap p q (done.setIfInBounds p true) (upd f p u) := by
  intro a
  rw [done_ne hpq] at a
  have := (h a).1
  rw [hn] at this
  cases this
theorem Hap.snd {p q : Nat} {done : Array Bool} {f : Nat → Value} {u : Value} (hpq : p ≠ q) (hd : done.getD p false = true) (hA : Apt (f p) u) : Hap p q (done.setIfInBounds q true) (upd f q u) := by
  intro _
  rw [done_ne (Ne.symm hpq)]
  unfold upd
  rw [if_pos rfl, if_neg hpq]
  exact ⟨hd, hA⟩
theorem lentL_set {w : World} {B g cap : Nat} {l : List Nat} (h : LentL w B g cap l) {b : Nat} {cs : Array Value} {T : TypeId} (hb : Bx w b T cs) (hT : T ≠ 46) (u : Value) : LentL (w.setCell ⟨b, 0, none⟩ u) B g cap l := ⟨h.1, h.2.1, ownsRow_setCell_other h.2.2 (own_ne h.2.2 (show w.heap[b]? = some (.cells cs T (0, 0)) from hb) hT) _⟩
/-- what an act's slots hold. -/
def Has (z : Nat) (a : Act) (l : List (Nat × Value)) : Prop := a.tmps.size = z ∧ ∀ s v, (s, v) ∈ l → a.tmps[s]? = some v
theorem Has.put {z : Nat} {a : Act} {l : List (Nat × Value)} (h : Has z a l) (d : Nat) (u : Value) (hd : d < z) (hn : ∀ p ∈ l, p.1 ≠ d) : Has z (a.put (some d) u) ((d, u) :: l) := by
  have hs : d < a.tmps.size := by rw [h.1]; exact hd
  refine ⟨by show (a.tmps.setIfInBounds d u).size = z; rw [Array.size_setIfInBounds]; exact h.1, fun s v hm => ?_⟩
  rw [put_get a d u s hs]
  rcases List.mem_cons.1 hm with e | e
  · cases e; rw [if_pos rfl]
  · rw [if_neg (hn _ e)]; exact h.2 s v e
/-- what an operation that stores tells. -/
def FP (B m : Nat) (V : World) (e : Ending) (w' : World) : Prop := ∃ q n c, e = .returned (.agg #[.slice q n c]) ∧ FNat w' V.heap.size (.agg #[.slice q n c]) m ∧ B ≤ V.heap.size ∧ Below V.heap.size V w'
theorem FP.of {B m : Nat} {V w' : World} {e : Ending} (h : ∃ v, e = .returned v ∧ FNat w' V.heap.size v m ∧ Below V.heap.size V w') (hB : B ≤ V.heap.size) : FP B m V e w' := by
  obtain ⟨v, rfl, hf, hb⟩ := h
  obtain ⟨q, c, k, rfl, hr⟩ := hf
  exact ⟨q, k.length, c, rfl, ⟨q, c, k, rfl, hr⟩, hB, hb⟩
def nt3o0 : Oper := { dst := some 20, op := Op.load 24 (Operand.tmp 3), type := 24, pos := "law.go:41", after := #[], guard := none }
def nt3o1 : Oper := { dst := some 21, op := Op.call { callee := Callee.value (Operand.func 8), args := #[Operand.tmp 20], argTypes := #[24] }, type := 24, pos := "law.go:41", after := #[{ on := 0, ground := Ground.data }], guard := none }
def nt3o2 : Oper := { dst := some 22, op := Op.load 24 (Operand.tmp 4), type := 24, pos := "law.go:41", after := #[], guard := none }
def nt3o3 : Oper := { dst := some 23, op := Op.call { callee := Callee.value (Operand.func 8), args := #[Operand.tmp 22], argTypes := #[24] }, type := 24, pos := "law.go:41", after := #[{ on := 2, ground := Ground.data }, { on := 1, ground := Ground.chain }], guard := none }
def nt3o4 : Oper := { dst := some 7, op := Op.alloc 24, type := 0, pos := "law.go:41", after := #[], guard := none }
def nt3o5 : Oper := { dst := some 8, op := Op.alloc 24, type := 0, pos := "law.go:41", after := #[], guard := none }
def nt3o6 : Oper := { dst := none, op := Op.store 24 (Operand.tmp 7) (Operand.tmp 21), type := 0, pos := "law.go:41", after := #[{ on := 4, ground := Ground.data }, { on := 1, ground := Ground.data }, { on := 3, ground := Ground.chain }, { on := 0, ground := Ground.phase }, { on := 1, ground := Ground.phase }, { on := 2, ground := Ground.textOnly Departure.lateStores }, { on := 3, ground := Ground.textOnly Departure.lateStoresUnsure }, { on := 4, ground := Ground.phase }, { on := 5, ground := Ground.phase }], guard := none }
def nt3o7 : Oper := { dst := none, op := Op.store 24 (Operand.tmp 8) (Operand.tmp 23), type := 0, pos := "law.go:41", after := #[{ on := 5, ground := Ground.data }, { on := 3, ground := Ground.data }, { on := 6, ground := Ground.chain }, { on := 0, ground := Ground.phase }, { on := 1, ground := Ground.phase }, { on := 2, ground := Ground.phase }, { on := 3, ground := Ground.phase }, { on := 4, ground := Ground.phase }, { on := 5, ground := Ground.phase }, { on := 6, ground := Ground.phase }], guard := none }
def nt3Ops : Array Oper := #[nt3o0, nt3o1, nt3o2, nt3o3, nt3o4, nt3o5, nt3o6, nt3o7]
def nt3Pre : Array Bool := #[true, true, true, true, true, true, false, false]
def nt3K (p q : Option Addr) (nl c nm d _b3 _b4 zw Bz : Nat) (l m : List Nat) : Nat → Kc
  | 0 => Kc.val (.agg #[.slice p nl c])
  | 1 => Kc.lent Bz nl l
  | 2 => Kc.val (.agg #[.slice q nm d])
  | 3 => Kc.lent Bz nm m
  | 4 => Kc.nbox zw 24 #[.slice none 0 0]
  | 5 => Kc.nbox zw 24 #[.slice none 0 0]
  | _ => Kc.val undef
theorem nt3_slots (f : Nat → Value) : slotsOf nt3Ops nt3Pre f = [(20, f 0), (21, f 1), (22, f 2), (23, f 3), (7, f 4), (8, f 5)] := by kernel_rfl
set_option maxHeartbeats 6400000 in
set_option maxRecDepth 100000 in
theorem nt3_wp {Q : Exit → Act → World → Prop} {a0 : Act} {w : World} (p q : Option Addr) (nl c nm d b3 b4 zw Bz : Nat) (l m : List Nat) (hsize : a0.tmps.size = 111) (h3 : a0.tmps[3]? = some (.pointer (some ⟨b3, 0, none⟩))) (h4 : a0.tmps[4]? = some (.pointer (some ⟨b4, 0, none⟩))) (hzw : zw = w.drew.heap.size) (hc3 : w.drew.cell? ⟨b3, 0, none⟩ = some (.slice p nl c)) (hc4 : w.drew.cell? ⟨b4, 0, none⟩ = some (.slice q nm d))
    (hlx : ∀ V, Below w.drew.heap.size w.drew V → Calls Tryz.prog 8 #[.agg #[.slice p nl c]] V fun e w' => ∃ g cap, e = .returned (.agg #[.slice (some ⟨g, 0, none⟩) nl cap]) ∧ LentL w' Bz g cap l ∧ Below V.heap.size V w')
    (hly : ∀ V, Below w.drew.heap.size w.drew V → Calls Tryz.prog 8 #[.agg #[.slice q nm d]] V fun e w' => ∃ g cap, e = .returned (.agg #[.slice (some ⟨g, 0, none⟩) nm cap]) ∧ LentL w' Bz g cap m ∧ Below V.heap.size V w')
    (fin : ∀ (f : Nat → Value) (y : World), (∀ j, j < 8 → nt3Pre.getD j false = true → (nt3K p q nl c nm d b3 b4 zw Bz l m j).P (f j) y) → Below w.drew.heap.size w.drew y → f 4 ≠ f 5 → wpAny Tryz.prog .any nt3Ops Q 2 nt3Pre (putL a0 [(20, f 0), (21, f 1), (22, f 2), (23, f 3), (7, f 4), (8, f 5)]) y) (id : Nat) :
    (Code.region id nt3Ops true).wp Tryz.prog Q a0 w := by
  refine wp_region_invS9 nt3Pre (fun j => (nt3K p q nl c nm d b3 b4 zw Bz l m j).P) (fun done f _ => Twq 4 5 done f) (fun x y => Below x.heap.size x y) 6 2 (by kernel_rfl) (by kernel_rfl) (by rw [hsize]; kernel_rfl) (by kernel_rfl) (by kernel_rfl) (Below.refl _ _) (fun _ _ _ h1 h2 => bl_trans h1 h2) (fun j _ _ _ h1 h2 => (nt3K p q nl c nm d b3 b4 zw Bz l m j).keep h1 h2) ?_ (fun f y h1 h2 h3 => by rw [nt3_slots]; exact fin f y h1 h2 (h3 (by decide) (by decide))) (fun h _ => absurd h (by decide))
  intro i o ho hp done f a x hR hbase hdeps hH hdsz hnd hdd hgood K hK0
  have hi : i < 8 := by
    rcases Nat.lt_or_ge i 8 with h | h
    · exact h
    · have : nt3Ops.size ≤ i := h
      rw [Array.getElem?_eq_none this] at ho; cases ho
  have dep : ∀ j, (o.after.any fun e => Region.binds .any e && e.on == j) = true → (∀ s, slotOf nt3Ops j = some s → a.tmps[s]? = some (f j)) ∧ (nt3K p q nl c nm d b3 b4 zw Bz l m j).P (f j) x := by
    intro j h
    obtain ⟨e, he, h2⟩ := Array.any_eq_true'.1 h
    simp only [Bool.and_eq_true, beq_iff_eq] at h2
    obtain ⟨h3, rfl⟩ := h2
    exact hdeps e he h3
  have dv : ∀ (j s : Nat) {v : Value}, (o.after.any fun e => Region.binds .any e && e.on == j) = true → slotOf nt3Ops j = some s → nt3K p q nl c nm d b3 b4 zw Bz l m j = Kc.val v → a.tmps[s]? = some v := fun j s v h1 h2 h3 => by
    obtain ⟨t, g⟩ := dep j h1
    rw [h3] at g
    have e : f j = v := g
    rw [← e]; exact t s h2
  have bv : ∀ {s : Nat} {v : Value}, a0.tmps[s]? = some v → ((List.range nt3Ops.size).all fun j => slotOf nt3Ops j != some s) = true → a.tmps[s]? = some v := by
    intro s v h0 h
    rw [hbase s fun j hj _ e => ?_]; exact h0
    have h2 := (List.all_eq_true.1 h) j (List.mem_range.2 hj)
    rw [e] at h2; simp at h2
  match i, hi with
  | 0, _ =>
    obtain rfl : nt3o0 = o := Option.some.inj (show nt3Ops[0]? = some _ from ho)
    have hK : ∀ u y, (nt3K p q nl c nm d b3 b4 zw Bz l m 0).P u y → Below x.heap.size x y → K (a.put nt3o0.dst u) y := fun u y h1 h2 => hK0 u y h1 h2 (hH.keep (by decide) (by decide))
    have eb3 := eval_at (bv h3 (by kernel_rfl))
    have k_ := keep_cellK hR hc3
    exact inv_stay hK rfl (by simp only [execOp, nt3o0, eb3]; go_simp) (wanted_none rfl)
  | 1, _ =>
    obtain rfl : nt3o1 = o := Option.some.inj (show nt3Ops[1]? = some _ from ho)
    have hK : ∀ u y, (nt3K p q nl c nm d b3 b4 zw Bz l m 1).P u y → Below x.heap.size x y → K (a.put nt3o1.dst u) y := fun u y h1 h2 => hK0 u y h1 h2 (hH.keep (by decide) (by decide))
    have q0 := dv 0 20 (by kernel_rfl) rfl rfl
    refine inv_enter 8 #[.agg #[.slice p nl c]] hK (by simp [go_sem, nt3o1, q0]) (wanted_none rfl) ?_
    refine (hlx x hR).mono ?_
    rintro e y ⟨g, cap, rfl, h1, hb⟩
    exact ⟨_, rfl, ⟨g, cap, rfl, h1⟩, hb⟩
  | 2, _ =>
    obtain rfl : nt3o2 = o := Option.some.inj (show nt3Ops[2]? = some _ from ho)
    have hK : ∀ u y, (nt3K p q nl c nm d b3 b4 zw Bz l m 2).P u y → Below x.heap.size x y → K (a.put nt3o2.dst u) y := fun u y h1 h2 => hK0 u y h1 h2 (hH.keep (by decide) (by decide))
    have eb4 := eval_at (bv h4 (by kernel_rfl))
    have k_ := keep_cellK hR hc4
    exact inv_stay hK rfl (by simp only [execOp, nt3o2, eb4]; go_simp) (wanted_none rfl)
  | 3, _ =>
    obtain rfl : nt3o3 = o := Option.some.inj (show nt3Ops[3]? = some _ from ho)
    have hK : ∀ u y, (nt3K p q nl c nm d b3 b4 zw Bz l m 3).P u y → Below x.heap.size x y → K (a.put nt3o3.dst u) y := fun u y h1 h2 => hK0 u y h1 h2 (hH.keep (by decide) (by decide))
    have q2 := dv 2 22 (by kernel_rfl) rfl rfl
    refine inv_enter 8 #[.agg #[.slice q nm d]] hK (by simp [go_sem, nt3o3, q2]) (wanted_none rfl) ?_
    refine (hly x hR).mono ?_
    rintro e y ⟨g, cap, rfl, h1, hb⟩
    exact ⟨_, rfl, ⟨g, cap, rfl, h1⟩, hb⟩
  | 4, _ =>
    obtain rfl : nt3o4 = o := Option.some.inj (show nt3Ops[4]? = some _ from ho)
    have hK : ∀ u y, (u = .pointer (some ⟨x.heap.size, 0, none⟩) ∧ (nt3K p q nl c nm d b3 b4 zw Bz l m 4).P u y) → Below x.heap.size x y → K (a.put nt3o4.dst u) y := fun u y h1 h2 => hK0 u y h1.2 h2 (Twq.fst (by decide) (fun hd => by rw [h1.1]; exact nbox_new (hgood 5 (by decide) (by decide) (by rw [getD_flip (by rw [hdsz]; decide) true false]; exact hd))))
    refine inv_val (R := fun x y => Below x.heap.size x y) (wanted_none rfl) (v := .pointer (some ⟨x.heap.size, 0, none⟩)) (w2 := x.alloc (.cells #[.slice none 0 0] 24)) (by simp only [execOp, nt3o4]; go_simp) hK ⟨rfl, _, rfl, (hzw ▸ hR.size), Bx.new _ _ _⟩ (bl_alloc _ _)
  | 5, _ =>
    obtain rfl : nt3o5 = o := Option.some.inj (show nt3Ops[5]? = some _ from ho)
    have hK : ∀ u y, (u = .pointer (some ⟨x.heap.size, 0, none⟩) ∧ (nt3K p q nl c nm d b3 b4 zw Bz l m 5).P u y) → Below x.heap.size x y → K (a.put nt3o5.dst u) y := fun u y h1 h2 => hK0 u y h1.2 h2 (Twq.snd (by decide) (fun hd => by rw [h1.1]; exact nbox_new (hgood 4 (by decide) (by decide) (by rw [getD_flip (by rw [hdsz]; decide) true false]; exact hd))))
    refine inv_val (R := fun x y => Below x.heap.size x y) (wanted_none rfl) (v := .pointer (some ⟨x.heap.size, 0, none⟩)) (w2 := x.alloc (.cells #[.slice none 0 0] 24)) (by simp only [execOp, nt3o5]; go_simp) hK ⟨rfl, _, rfl, (hzw ▸ hR.size), Bx.new _ _ _⟩ (bl_alloc _ _)
  | 6, _ => exact absurd (show nt3Pre.getD 6 false = true from hp) (by decide)
  | 7, _ => exact absurd (show nt3Pre.getD 7 false = true from hp) (by decide)
set_option maxHeartbeats 3200000 in
set_option maxRecDepth 100000 in
theorem nt3_all {Q : Exit → Act → World → Prop} {a0 : Act} {w : World} (p q : Option Addr) (nl c nm d b3 b4 zw Bz : Nat) (l m : List Nat) (hsize : a0.tmps.size = 111) (h3 : a0.tmps[3]? = some (.pointer (some ⟨b3, 0, none⟩))) (h4 : a0.tmps[4]? = some (.pointer (some ⟨b4, 0, none⟩))) (hzw : zw = w.drew.heap.size) (hc3 : w.drew.cell? ⟨b3, 0, none⟩ = some (.slice p nl c)) (hc4 : w.drew.cell? ⟨b4, 0, none⟩ = some (.slice q nm d))
    (hlx : ∀ V, Below w.drew.heap.size w.drew V → Calls Tryz.prog 8 #[.agg #[.slice p nl c]] V fun e w' => ∃ g cap, e = .returned (.agg #[.slice (some ⟨g, 0, none⟩) nl cap]) ∧ LentL w' Bz g cap l ∧ Below V.heap.size V w')
    (hly : ∀ V, Below w.drew.heap.size w.drew V → Calls Tryz.prog 8 #[.agg #[.slice q nm d]] V fun e w' => ∃ g cap, e = .returned (.agg #[.slice (some ⟨g, 0, none⟩) nm cap]) ∧ LentL w' Bz g cap m ∧ Below V.heap.size V w')
    (fin : ∀ (gx cx gy cy b7 b8 : Nat) (y : World), LentL y Bz gx cx l → LentL y Bz gy cy m → Bx y b7 24 #[.slice (some ⟨gx, 0, none⟩) nl cx] → Bx y b8 24 #[.slice (some ⟨gy, 0, none⟩) nm cy] → zw ≤ b7 → zw ≤ b8 → b7 ≠ b8 → Below w.drew.heap.size w.drew y → Q .normal (putL a0 [(20, .agg #[.slice p nl c]), (21, .agg #[.slice (some ⟨gx, 0, none⟩) nl cx]), (22, .agg #[.slice q nm d]), (23, .agg #[.slice (some ⟨gy, 0, none⟩) nm cy]), (7, .pointer (some ⟨b7, 0, none⟩)), (8, .pointer (some ⟨b8, 0, none⟩))]) y) (id : Nat) :
    (Code.region id nt3Ops true).wp Tryz.prog Q a0 w := by
  refine nt3_wp p q nl c nm d b3 b4 zw Bz l m hsize h3 h4 hzw hc3 hc4 hlx hly ?_ id
  intro f y hk hb hne
  obtain ⟨b7, hp7, hz7, hx7⟩ : (Kc.nbox zw 24 #[.slice none 0 0]).P (f 4) y := hk 4 (by decide) (by decide)
  obtain ⟨b8, hp8, hz8, hx8⟩ : (Kc.nbox zw 24 #[.slice none 0 0]).P (f 5) y := hk 5 (by decide) (by decide)
  obtain ⟨gx, cx, hv1, hl1⟩ : (Kc.lent Bz nl l).P (f 1) y := hk 1 (by decide) (by decide)
  obtain ⟨gy, cy, hv3, hl3⟩ : (Kc.lent Bz nm m).P (f 3) y := hk 3 (by decide) (by decide)
  have e0 : f 0 = .agg #[.slice p nl c] := hk 0 (by decide) (by decide)
  have e2 : f 2 = .agg #[.slice q nm d] := hk 2 (by decide) (by decide)
  rw [hp7, hp8] at hne
  have hb78 : b7 ≠ b8 := fun e => hne (by rw [e])
  rw [hp7, hp8, hv1, hv3, e0, e2]
  clear hk e0 e2 hv1 hv3 hp7 hp8 hne hlx hly
  have get : ∀ s v, (s, v) ∈ [(20, .agg #[.slice p nl c]), (21, .agg #[.slice (some ⟨gx, 0, none⟩) nl cx]), (22, .agg #[.slice q nm d]), (23, .agg #[.slice (some ⟨gy, 0, none⟩) nm cy]), (7, .pointer (some ⟨b7, 0, none⟩)), (8, .pointer (some ⟨b8, 0, none⟩))] → (putL a0 [(20, .agg #[.slice p nl c]), (21, .agg #[.slice (some ⟨gx, 0, none⟩) nl cx]), (22, .agg #[.slice q nm d]), (23, .agg #[.slice (some ⟨gy, 0, none⟩) nm cy]), (7, .pointer (some ⟨b7, 0, none⟩)), (8, .pointer (some ⟨b8, 0, none⟩))]).tmps[s]? = some v := fun s v hm => (putL_get _ a0 s (by simp) (by rw [hsize]; simp)).2 v hm
  have g7 := eval_at (get 7 (.pointer (some ⟨b7, 0, none⟩)) (by simp))
  have g8 := eval_at (get 8 (.pointer (some ⟨b8, 0, none⟩)) (by simp))
  have g21 := eval_at (get 21 (.agg #[.slice (some ⟨gx, 0, none⟩) nl cx]) (by simp))
  have g23 := eval_at (get 23 (.agg #[.slice (some ⟨gy, 0, none⟩) nm cy]) (by simp))
  clear get
  generalize hl : ([(20, .agg #[.slice p nl c]), (21, .agg #[.slice (some ⟨gx, 0, none⟩) nl cx]), (22, .agg #[.slice q nm d]), (23, .agg #[.slice (some ⟨gy, 0, none⟩) nm cy]), (7, .pointer (some ⟨b7, 0, none⟩)), (8, .pointer (some ⟨b8, 0, none⟩))] : List (Nat × Value)) = L at g7 g8 g21 g23 ⊢
  have k7 : y.cell? ⟨b7, 0, none⟩ = some (.slice none 0 0) := hx7.cell rfl
  have f7 := hx7.free 0
  have n7 : Bx (y.setCell ⟨b7, 0, none⟩ (.slice (some ⟨gx, 0, none⟩) nl cx)) b7 24 #[.slice (some ⟨gx, 0, none⟩) nl cx] := hx7.set 0 (.slice (some ⟨gx, 0, none⟩) nl cx)
  have n8 : Bx (y.setCell ⟨b7, 0, none⟩ (.slice (some ⟨gx, 0, none⟩) nl cx)) b8 24 #[.slice none 0 0] := hx8.other (a := ⟨b7, 0, none⟩) (Ne.symm hb78) _
  have m1 := lentL_set hl1 hx7 (by decide) (.slice (some ⟨gx, 0, none⟩) nl cx)
  have m3 := lentL_set hl3 hx7 (by decide) (.slice (some ⟨gx, 0, none⟩) nl cx)
  have hb2 := hb.setCell (p := ⟨b7, 0, none⟩) (show w.drew.heap.size ≤ b7 by rw [← hzw]; exact hz7) (.slice (some ⟨gx, 0, none⟩) nl cx)
  refine any_one (i := 6) (o := nt3o6) (by kernel_rfl) rfl ?_
  refine inv_skip (wanted_none rfl) (w2 := y.setCell ⟨b7, 0, none⟩ (.slice (some ⟨gx, 0, none⟩) nl cx)) (by simp only [execOp, nt3o6, g7, g21]; go_simp) ?_
  generalize y.setCell ⟨b7, 0, none⟩ (.slice (some ⟨gx, 0, none⟩) nl cx) = y2 at n7 n8 m1 m3 hb2 ⊢
  have k8 : y2.cell? ⟨b8, 0, none⟩ = some (.slice none 0 0) := n8.cell rfl
  have f8 := n8.free 0
  show wpAny Tryz.prog .any nt3Ops Q 1 _ (putL a0 L) y2
  refine any_one (i := 7) (o := nt3o7) (by kernel_rfl) rfl ?_
  refine inv_skip (wanted_none rfl) (w2 := y2.setCell ⟨b8, 0, none⟩ (.slice (some ⟨gy, 0, none⟩) nm cy)) (by simp only [execOp, nt3o7, g8, g23]; go_simp) ?_
  refine any_end (by kernel_rfl) ?_ 0
  show Q .normal (putL a0 L) _
  subst hl
  exact fin gx cx gy cy b7 b8 _ (lentL_set m1 n8 (by decide) _) (lentL_set m3 n8 (by decide) _) (n7.other (a := ⟨b8, 0, none⟩) hb78 _) (n8.set 0 _) hz7 hz8 hb78 (hb2.setCell (p := ⟨b8, 0, none⟩) (show w.drew.heap.size ≤ b8 by rw [← hzw]; exact hz8) _)
end Go.Proofs.YtcahnkocfbcchaaGreatDoor


namespace Go.Proofs.YtcahnkocfbcchaaGreatDoor
open Go.RowKit Tnd

def nt7o0 : Oper := { dst := some 42, op := Op.move (Operand.tmp 10), type := 4, pos := "law.go:45", after := #[], guard := none }
def nt7o1 : Oper := { dst := some 43, op := Op.move (Operand.tmp 12), type := 4, pos := "law.go:45", after := #[], guard := none }
def nt7o2 : Oper := { dst := some 44, op := Op.binOp BinOp.neq 4 (Operand.tmp 42) (Operand.tmp 43) 4, type := 4, pos := "law.go:45", after := #[{ on := 0, ground := Ground.data }, { on := 1, ground := Ground.data }], guard := none }
def nt7o3 : Oper := { dst := some 45, op := Op.move (Operand.tmp 44), type := 4, pos := "law.go:45", after := #[{ on := 2, ground := Ground.data }], guard := none }
def nt7o4 : Oper := { dst := some 46, op := Op.load 24 (Operand.tmp 9), type := 24, pos := "law.go:45", after := #[{ on := 3, ground := Ground.guard }], guard := some (3, false) }
def nt7o5 : Oper := { dst := some 47, op := Op.load 24 (Operand.tmp 11), type := 24, pos := "law.go:45", after := #[{ on := 3, ground := Ground.guard }], guard := some (3, false) }
def nt7o6 : Oper := { dst := some 48, op := Op.call { callee := Callee.value (Operand.func 11), args := #[Operand.tmp 46, Operand.tmp 47], argTypes := #[24, 24] }, type := 4, pos := "law.go:45", after := #[{ on := 4, ground := Ground.data }, { on := 5, ground := Ground.data }, { on := 3, ground := Ground.chain }, { on := 3, ground := Ground.guard }], guard := some (3, false) }
def nt7o7 : Oper := { dst := some 49, op := Op.unOp UnOp.not 4 (Operand.tmp 48), type := 4, pos := "law.go:45", after := #[{ on := 6, ground := Ground.data }, { on := 3, ground := Ground.guard }], guard := some (3, false) }
def nt7o8 : Oper := { dst := some 50, op := Op.pick (Operand.tmp 45) (Operand.const (Value.bool true)) (Operand.tmp 49), type := 4, pos := "law.go:45", after := #[{ on := 3, ground := Ground.data }, { on := 7, ground := Ground.data }], guard := none }
def nt7o9 : Oper := { dst := some 51, op := Op.move (Operand.tmp 50), type := 4, pos := "law.go:45", after := #[{ on := 8, ground := Ground.data }, { on := 6, ground := Ground.chain }], guard := none }
def nt7o10 : Oper := { dst := some 52, op := Op.load 24 (Operand.tmp 7), type := 24, pos := "law.go:45", after := #[{ on := 9, ground := Ground.guard }], guard := some (9, false) }
def nt7o11 : Oper := { dst := some 53, op := Op.call { callee := Callee.value (Operand.func 12), args := #[Operand.tmp 52], argTypes := #[24] }, type := 4, pos := "law.go:45", after := #[{ on := 10, ground := Ground.data }, { on := 9, ground := Ground.chain }, { on := 9, ground := Ground.guard }], guard := some (9, false) }
def nt7o12 : Oper := { dst := some 54, op := Op.load 24 (Operand.tmp 3), type := 24, pos := "law.go:45", after := #[{ on := 9, ground := Ground.guard }], guard := some (9, false) }
def nt7o13 : Oper := { dst := some 55, op := Op.call { callee := Callee.value (Operand.func 13), args := #[Operand.tmp 54], argTypes := #[24] }, type := 4, pos := "law.go:45", after := #[{ on := 12, ground := Ground.data }, { on := 11, ground := Ground.chain }, { on := 9, ground := Ground.guard }], guard := some (9, false) }
def nt7o14 : Oper := { dst := some 56, op := Op.binOp BinOp.neq 4 (Operand.tmp 53) (Operand.tmp 55) 4, type := 4, pos := "law.go:45", after := #[{ on := 11, ground := Ground.data }, { on := 13, ground := Ground.data }, { on := 9, ground := Ground.guard }], guard := some (9, false) }
def nt7o15 : Oper := { dst := some 57, op := Op.pick (Operand.tmp 51) (Operand.const (Value.bool true)) (Operand.tmp 56), type := 4, pos := "law.go:45", after := #[{ on := 9, ground := Ground.data }, { on := 14, ground := Ground.data }], guard := none }
def nt7o16 : Oper := { dst := some 58, op := Op.move (Operand.tmp 57), type := 4, pos := "law.go:45", after := #[{ on := 15, ground := Ground.data }, { on := 13, ground := Ground.chain }], guard := none }
def nt7o17 : Oper := { dst := some 59, op := Op.load 24 (Operand.tmp 7), type := 24, pos := "law.go:45", after := #[{ on := 16, ground := Ground.guard }], guard := some (16, false) }
def nt7o18 : Oper := { dst := some 60, op := Op.load 24 (Operand.tmp 8), type := 24, pos := "law.go:45", after := #[{ on := 16, ground := Ground.guard }], guard := some (16, false) }
def nt7o19 : Oper := { dst := some 61, op := Op.call { callee := Callee.value (Operand.func 14), args := #[Operand.tmp 59, Operand.tmp 60], argTypes := #[24, 24] }, type := 3, pos := "law.go:45", after := #[{ on := 17, ground := Ground.data }, { on := 18, ground := Ground.data }, { on := 16, ground := Ground.chain }, { on := 16, ground := Ground.guard }], guard := some (16, false) }
def nt7o20 : Oper := { dst := some 62, op := Op.load 24 (Operand.tmp 3), type := 24, pos := "law.go:45", after := #[{ on := 16, ground := Ground.guard }], guard := some (16, false) }
def nt7o21 : Oper := { dst := some 63, op := Op.load 24 (Operand.tmp 4), type := 24, pos := "law.go:45", after := #[{ on := 16, ground := Ground.guard }], guard := some (16, false) }
def nt7o22 : Oper := { dst := some 64, op := Op.call { callee := Callee.value (Operand.func 15), args := #[Operand.tmp 62, Operand.tmp 63], argTypes := #[24, 24] }, type := 3, pos := "law.go:45", after := #[{ on := 20, ground := Ground.data }, { on := 21, ground := Ground.data }, { on := 19, ground := Ground.chain }, { on := 16, ground := Ground.guard }], guard := some (16, false) }
def nt7o23 : Oper := { dst := some 65, op := Op.binOp BinOp.neq 3 (Operand.tmp 61) (Operand.tmp 64) 3, type := 4, pos := "law.go:45", after := #[{ on := 19, ground := Ground.data }, { on := 22, ground := Ground.data }, { on := 16, ground := Ground.guard }], guard := some (16, false) }
def nt7o24 : Oper := { dst := some 66, op := Op.pick (Operand.tmp 58) (Operand.const (Value.bool true)) (Operand.tmp 65), type := 4, pos := "law.go:45", after := #[{ on := 16, ground := Ground.data }, { on := 23, ground := Ground.data }], guard := none }
def nt7o25 : Oper := { dst := some 67, op := Op.move (Operand.tmp 66), type := 4, pos := "law.go:45", after := #[{ on := 24, ground := Ground.data }, { on := 22, ground := Ground.chain }], guard := none }
def nt7o26 : Oper := { dst := some 68, op := Op.load 24 (Operand.tmp 7), type := 24, pos := "law.go:45", after := #[{ on := 25, ground := Ground.guard }], guard := some (25, false) }
def nt7o27 : Oper := { dst := some 69, op := Op.call { callee := Callee.value (Operand.func 16), args := #[Operand.tmp 68], argTypes := #[24] }, type := 9, pos := "law.go:45", after := #[{ on := 26, ground := Ground.data }, { on := 25, ground := Ground.chain }, { on := 25, ground := Ground.guard }], guard := some (25, false) }
def nt7o28 : Oper := { dst := some 70, op := Op.load 24 (Operand.tmp 3), type := 24, pos := "law.go:45", after := #[{ on := 25, ground := Ground.guard }], guard := some (25, false) }
def nt7o29 : Oper := { dst := some 71, op := Op.call { callee := Callee.value (Operand.func 17), args := #[Operand.tmp 70], argTypes := #[24] }, type := 9, pos := "law.go:45", after := #[{ on := 28, ground := Ground.data }, { on := 27, ground := Ground.chain }, { on := 25, ground := Ground.guard }], guard := some (25, false) }
def nt7o30 : Oper := { dst := some 72, op := Op.binOp BinOp.neq 9 (Operand.tmp 69) (Operand.tmp 71) 9, type := 4, pos := "law.go:45", after := #[{ on := 27, ground := Ground.data }, { on := 29, ground := Ground.data }, { on := 25, ground := Ground.guard }], guard := some (25, false) }
def nt7o31 : Oper := { dst := some 73, op := Op.pick (Operand.tmp 67) (Operand.const (Value.bool true)) (Operand.tmp 72), type := 4, pos := "law.go:45", after := #[{ on := 25, ground := Ground.data }, { on := 30, ground := Ground.data }], guard := none }
def nt7o32 : Oper := { dst := some 74, op := Op.move (Operand.tmp 73), type := 4, pos := "law.go:45", after := #[{ on := 31, ground := Ground.data }, { on := 29, ground := Ground.chain }], guard := none }
def nt7o33 : Oper := { dst := some 75, op := Op.move (Operand.tmp 2), type := 25, pos := "law.go:45", after := #[{ on := 32, ground := Ground.guard }], guard := some (32, false) }
def nt7o34 : Oper := { dst := some 76, op := Op.call { callee := Callee.value (Operand.func 18), args := #[Operand.tmp 75], argTypes := #[25] }, type := 24, pos := "law.go:45", after := #[{ on := 33, ground := Ground.data }, { on := 32, ground := Ground.chain }, { on := 32, ground := Ground.guard }], guard := some (32, false) }
def nt7o35 : Oper := { dst := some 77, op := Op.move (Operand.tmp 2), type := 25, pos := "law.go:45", after := #[{ on := 32, ground := Ground.guard }], guard := some (32, false) }
def nt7o36 : Oper := { dst := some 78, op := Op.call { callee := Callee.value (Operand.func 19), args := #[Operand.tmp 77], argTypes := #[25] }, type := 24, pos := "law.go:45", after := #[{ on := 35, ground := Ground.data }, { on := 34, ground := Ground.chain }, { on := 32, ground := Ground.guard }], guard := some (32, false) }
def nt7o37 : Oper := { dst := some 79, op := Op.call { callee := Callee.value (Operand.func 11), args := #[Operand.tmp 76, Operand.tmp 78], argTypes := #[24, 24] }, type := 4, pos := "law.go:45", after := #[{ on := 34, ground := Ground.data }, { on := 36, ground := Ground.data }, { on := 36, ground := Ground.chain }, { on := 32, ground := Ground.guard }], guard := some (32, false) }
def nt7o38 : Oper := { dst := some 80, op := Op.unOp UnOp.not 4 (Operand.tmp 79), type := 4, pos := "law.go:45", after := #[{ on := 37, ground := Ground.data }, { on := 32, ground := Ground.guard }], guard := some (32, false) }
def nt7o39 : Oper := { dst := some 81, op := Op.pick (Operand.tmp 74) (Operand.const (Value.bool true)) (Operand.tmp 80), type := 4, pos := "law.go:45", after := #[{ on := 32, ground := Ground.data }, { on := 38, ground := Ground.data }], guard := none }
def nt7Ops : Array Oper := #[nt7o0, nt7o1, nt7o2, nt7o3, nt7o4, nt7o5, nt7o6, nt7o7, nt7o8, nt7o9, nt7o10, nt7o11, nt7o12, nt7o13, nt7o14, nt7o15, nt7o16, nt7o17, nt7o18, nt7o19, nt7o20, nt7o21, nt7o22, nt7o23, nt7o24, nt7o25, nt7o26, nt7o27, nt7o28, nt7o29, nt7o30, nt7o31, nt7o32, nt7o33, nt7o34, nt7o35, nt7o36, nt7o37, nt7o38, nt7o39]
def nt7Pre : Array Bool := #[true, true, true, true, true, true, true, true, true, true, true, true, true, true, true, true, true, true, true, true, true, true, true, true, true, true, true, true, true, true, true, true, true, true, true, true, true, true, true, true]
def nt7K (p q q9 q11 : Option Addr) (nl c nm d gx cx gy cy n9 c9 n11 c11 _b3 _b4 _b7 _b8 _b9 _b11 n : Nat) (dd r : Bool) (o_ : Int) (s_ : ByteArray) : Nat → Kc
  | 0 => Kc.val (.bool dd)
  | 1 => Kc.val (.bool dd)
  | 2 => Kc.val (.bool false)
  | 3 => Kc.val (.bool false)
  | 4 => Kc.val (.agg #[.slice q9 n9 c9])
  | 5 => Kc.val (.agg #[.slice q11 n11 c11])
  | 6 => Kc.val (.bool true)
  | 7 => Kc.val (.bool false)
  | 8 => Kc.val (.bool false)
  | 9 => Kc.val (.bool false)
  | 10 => Kc.val (.agg #[.slice (some ⟨gx, 0, none⟩) nl cx])
  | 11 => Kc.val (.bool r)
  | 12 => Kc.val (.agg #[.slice p nl c])
  | 13 => Kc.val (.bool r)
  | 14 => Kc.val (.bool false)
  | 15 => Kc.val (.bool false)
  | 16 => Kc.val (.bool false)
  | 17 => Kc.val (.agg #[.slice (some ⟨gx, 0, none⟩) nl cx])
  | 18 => Kc.val (.agg #[.slice (some ⟨gy, 0, none⟩) nm cy])
  | 19 => Kc.val (.int .i64 o_)
  | 20 => Kc.val (.agg #[.slice p nl c])
  | 21 => Kc.val (.agg #[.slice q nm d])
  | 22 => Kc.val (.int .i64 o_)
  | 23 => Kc.val (.bool false)
  | 24 => Kc.val (.bool false)
  | 25 => Kc.val (.bool false)
  | 26 => Kc.val (.agg #[.slice (some ⟨gx, 0, none⟩) nl cx])
  | 27 => Kc.val (.string s_)
  | 28 => Kc.val (.agg #[.slice p nl c])
  | 29 => Kc.val (.string s_)
  | 30 => Kc.val (.bool false)
  | 31 => Kc.val (.bool false)
  | 32 => Kc.val (.bool false)
  | 33 => Kc.val (.int .u64 (n : Nat))
  | 34 => Kc.fnat 0 n
  | 35 => Kc.val (.int .u64 (n : Nat))
  | 36 => Kc.fnat 0 n
  | 37 => Kc.val (.bool true)
  | 38 => Kc.val (.bool false)
  | 39 => Kc.val (.bool false)
  | _ => Kc.val undef
theorem nt7_slots (f : Nat → Value) : slotsOf nt7Ops nt7Pre f = [(42, f 0), (43, f 1), (44, f 2), (45, f 3), (46, f 4), (47, f 5), (48, f 6), (49, f 7), (50, f 8), (51, f 9), (52, f 10), (53, f 11), (54, f 12), (55, f 13), (56, f 14), (57, f 15), (58, f 16), (59, f 17), (60, f 18), (61, f 19), (62, f 20), (63, f 21), (64, f 22), (65, f 23), (66, f 24), (67, f 25), (68, f 26), (69, f 27), (70, f 28), (71, f 29), (72, f 30), (73, f 31), (74, f 32), (75, f 33), (76, f 34), (77, f 35), (78, f 36), (79, f 37), (80, f 38), (81, f 39)] := by kernel_rfl
set_option maxHeartbeats 6400000 in
set_option maxRecDepth 100000 in
theorem nt7_wp {Q : Exit → Act → World → Prop} {a0 : Act} {w : World} (p q q9 q11 : Option Addr) (nl c nm d gx cx gy cy n9 c9 n11 c11 b3 b4 b7 b8 b9 b11 n : Nat) (dd r : Bool) (o_ : Int) (s_ : ByteArray) (hsize : a0.tmps.size = 111) (h3 : a0.tmps[3]? = some (.pointer (some ⟨b3, 0, none⟩)))
    (h4 : a0.tmps[4]? = some (.pointer (some ⟨b4, 0, none⟩)))
    (h7 : a0.tmps[7]? = some (.pointer (some ⟨b7, 0, none⟩)))
    (h8 : a0.tmps[8]? = some (.pointer (some ⟨b8, 0, none⟩)))
    (h9 : a0.tmps[9]? = some (.pointer (some ⟨b9, 0, none⟩)))
    (h11 : a0.tmps[11]? = some (.pointer (some ⟨b11, 0, none⟩)))
    (h10 : a0.tmps[10]? = some (.bool dd))
    (h12 : a0.tmps[12]? = some (.bool dd))
    (h2 : a0.tmps[2]? = some (.int .u64 (n : Nat)))
    (hc3 : w.drew.cell? ⟨b3, 0, none⟩ = some (.slice p nl c))
    (hc4 : w.drew.cell? ⟨b4, 0, none⟩ = some (.slice q nm d))
    (hc7 : w.drew.cell? ⟨b7, 0, none⟩ = some (.slice (some ⟨gx, 0, none⟩) nl cx))
    (hc8 : w.drew.cell? ⟨b8, 0, none⟩ = some (.slice (some ⟨gy, 0, none⟩) nm cy))
    (hc9 : w.drew.cell? ⟨b9, 0, none⟩ = some (.slice q9 n9 c9))
    (hc11 : w.drew.cell? ⟨b11, 0, none⟩ = some (.slice q11 n11 c11))
    (hsm : ∀ V, Below w.drew.heap.size w.drew V → Calls Tryz.prog 11 #[.agg #[.slice q9 n9 c9], .agg #[.slice q11 n11 c11]] V fun e w' => e = .returned (.bool true) ∧ Below V.heap.size V w')
    (hr1 : ∀ V, Below w.drew.heap.size w.drew V → Calls Tryz.prog 12 #[.agg #[.slice (some ⟨gx, 0, none⟩) nl cx]] V fun e w' => e = .returned (.bool r) ∧ Below V.heap.size V w')
    (hr2 : ∀ V, Below w.drew.heap.size w.drew V → Calls Tryz.prog 13 #[.agg #[.slice p nl c]] V fun e w' => e = .returned (.bool r) ∧ Below V.heap.size V w')
    (hcm1 : ∀ V, Below w.drew.heap.size w.drew V → Calls Tryz.prog 14 #[.agg #[.slice (some ⟨gx, 0, none⟩) nl cx], .agg #[.slice (some ⟨gy, 0, none⟩) nm cy]] V fun e w' => e = .returned (.int .i64 o_) ∧ Below V.heap.size V w')
    (hcm2 : ∀ V, Below w.drew.heap.size w.drew V → Calls Tryz.prog 15 #[.agg #[.slice p nl c], .agg #[.slice q nm d]] V fun e w' => e = .returned (.int .i64 o_) ∧ Below V.heap.size V w')
    (htx1 : ∀ V, Below w.drew.heap.size w.drew V → Calls Tryz.prog 16 #[.agg #[.slice (some ⟨gx, 0, none⟩) nl cx]] V fun e w' => e = .returned (.string s_) ∧ Below V.heap.size V w')
    (htx2 : ∀ V, Below w.drew.heap.size w.drew V → Calls Tryz.prog 17 #[.agg #[.slice p nl c]] V fun e w' => e = .returned (.string s_) ∧ Below V.heap.size V w')
    (hof1 : ∀ V, Below w.drew.heap.size w.drew V → Calls Tryz.prog 18 #[.int .u64 (n : Nat)] V (FP 0 n V))
    (hof2 : ∀ V, Below w.drew.heap.size w.drew V → Calls Tryz.prog 19 #[.int .u64 (n : Nat)] V (FP 0 n V))
    (hn : n < 2 ^ 64)
    (fin : ∀ (f : Nat → Value) (y : World), (∀ j, j < 40 → nt7Pre.getD j false = true → (nt7K p q q9 q11 nl c nm d gx cx gy cy n9 c9 n11 c11 b3 b4 b7 b8 b9 b11 n dd r o_ s_ j).P (f j) y) → Below w.drew.heap.size w.drew y → Q .normal (putL a0 [(42, f 0), (43, f 1), (44, f 2), (45, f 3), (46, f 4), (47, f 5), (48, f 6), (49, f 7), (50, f 8), (51, f 9), (52, f 10), (53, f 11), (54, f 12), (55, f 13), (56, f 14), (57, f 15), (58, f 16), (59, f 17), (60, f 18), (61, f 19), (62, f 20), (63, f 21), (64, f 22), (65, f 23), (66, f 24), (67, f 25), (68, f 26), (69, f 27), (70, f 28), (71, f 29), (72, f 30), (73, f 31), (74, f 32), (75, f 33), (76, f 34), (77, f 35), (78, f 36), (79, f 37), (80, f 38), (81, f 39)]) y) (id : Nat) :
    (Code.region id nt7Ops true).wp Tryz.prog Q a0 w := by
  refine wp_region_inv nt7Pre (fun j => (nt7K p q q9 q11 nl c nm d gx cx gy cy n9 c9 n11 c11 b3 b4 b7 b8 b9 b11 n dd r o_ s_ j).P) (fun x y => Below x.heap.size x y) 40 0 (by kernel_rfl) (by kernel_rfl) (by rw [hsize]; kernel_rfl) (by kernel_rfl) (by kernel_rfl) (Below.refl _ _) (fun _ _ _ h1 h2 => bl_trans h1 h2) (fun j _ _ _ h1 h2 => (nt7K p q q9 q11 nl c nm d gx cx gy cy n9 c9 n11 c11 b3 b4 b7 b8 b9 b11 n dd r o_ s_ j).keep h1 h2) ?_ (fun f y h1 h2 => by rw [nt7_slots]; exact any_end (by kernel_rfl) (fin f y h1 h2) 0)
  intro i o ho hp f a x hR hbase hdeps K hK
  have hi : i < 40 := by
    rcases Nat.lt_or_ge i 40 with h | h
    · exact h
    · have : nt7Ops.size ≤ i := h
      rw [Array.getElem?_eq_none this] at ho; cases ho
  have dep : ∀ j, (o.after.any fun e => Region.binds .any e && e.on == j) = true → (∀ s, slotOf nt7Ops j = some s → a.tmps[s]? = some (f j)) ∧ (nt7K p q q9 q11 nl c nm d gx cx gy cy n9 c9 n11 c11 b3 b4 b7 b8 b9 b11 n dd r o_ s_ j).P (f j) x := by
    intro j h
    obtain ⟨e, he, h2⟩ := Array.any_eq_true'.1 h
    simp only [Bool.and_eq_true, beq_iff_eq] at h2
    obtain ⟨h3, rfl⟩ := h2
    exact hdeps e he h3
  have dv : ∀ (j s : Nat) {v : Value}, (o.after.any fun e => Region.binds .any e && e.on == j) = true → slotOf nt7Ops j = some s → nt7K p q q9 q11 nl c nm d gx cx gy cy n9 c9 n11 c11 b3 b4 b7 b8 b9 b11 n dd r o_ s_ j = Kc.val v → a.tmps[s]? = some v := fun j s v h1 h2 h3 => by
    obtain ⟨t, g⟩ := dep j h1
    rw [h3] at g
    have e : f j = v := g
    rw [← e]; exact t s h2
  have bv : ∀ {s : Nat} {v : Value}, a0.tmps[s]? = some v → ((List.range nt7Ops.size).all fun j => slotOf nt7Ops j != some s) = true → a.tmps[s]? = some v := by
    intro s v h0 h
    rw [hbase s fun j hj _ e => ?_]; exact h0
    have h2 := (List.all_eq_true.1 h) j (List.mem_range.2 hj)
    rw [e] at h2; simp at h2
  match i, hi with
  | 0, _ =>
    obtain rfl : nt7o0 = o := Option.some.inj (show nt7Ops[0]? = some _ from ho)
    have eb10 := eval_at (bv h10 (by kernel_rfl))
    exact inv_stay hK rfl (by simp only [execOp, nt7o0, eb10]; go_simp) (wanted_none rfl)
  | 1, _ =>
    obtain rfl : nt7o1 = o := Option.some.inj (show nt7Ops[1]? = some _ from ho)
    have eb12 := eval_at (bv h12 (by kernel_rfl))
    exact inv_stay hK rfl (by simp only [execOp, nt7o1, eb12]; go_simp) (wanted_none rfl)
  | 2, _ =>
    obtain rfl : nt7o2 = o := Option.some.inj (show nt7Ops[2]? = some _ from ho)
    have e0 := eval_at (dv 0 42 (by kernel_rfl) rfl rfl)
    have e1 := eval_at (dv 1 43 (by kernel_rfl) rfl rfl)
    exact inv_stay hK rfl (by cases dd <;> (simp only [execOp, nt7o2, e0, e1]; go_simp)) (wanted_none rfl)
  | 3, _ =>
    obtain rfl : nt7o3 = o := Option.some.inj (show nt7Ops[3]? = some _ from ho)
    have e2 := eval_at (dv 2 44 (by kernel_rfl) rfl rfl)
    exact inv_stay hK rfl (by simp only [execOp, nt7o3, e2]; go_simp) (wanted_none rfl)
  | 4, _ =>
    obtain rfl : nt7o4 = o := Option.some.inj (show nt7Ops[4]? = some _ from ho)
    have q3 := dv 3 45 (by kernel_rfl) rfl rfl
    have eb9 := eval_at (bv h9 (by kernel_rfl))
    have k_ := keep_cellK hR hc9
    exact inv_stay hK rfl (by simp only [execOp, nt7o4, eb9]; go_simp) (wanted_t q3 rfl rfl)
  | 5, _ =>
    obtain rfl : nt7o5 = o := Option.some.inj (show nt7Ops[5]? = some _ from ho)
    have q3 := dv 3 45 (by kernel_rfl) rfl rfl
    have eb11 := eval_at (bv h11 (by kernel_rfl))
    have k_ := keep_cellK hR hc11
    exact inv_stay hK rfl (by simp only [execOp, nt7o5, eb11]; go_simp) (wanted_t q3 rfl rfl)
  | 6, _ =>
    obtain rfl : nt7o6 = o := Option.some.inj (show nt7Ops[6]? = some _ from ho)
    have q3 := dv 3 45 (by kernel_rfl) rfl rfl
    have q4 := dv 4 46 (by kernel_rfl) rfl rfl
    have q5 := dv 5 47 (by kernel_rfl) rfl rfl
    refine inv_enter 11 #[.agg #[.slice q9 n9 c9], .agg #[.slice q11 n11 c11]] hK (by simp [go_sem, nt7o6, q4, q5]) (wanted_t q3 rfl rfl) ?_
    refine (hsm x hR).mono ?_
    rintro e y ⟨rfl, h⟩
    exact ⟨_, rfl, rfl, h⟩
  | 7, _ =>
    obtain rfl : nt7o7 = o := Option.some.inj (show nt7Ops[7]? = some _ from ho)
    have q3 := dv 3 45 (by kernel_rfl) rfl rfl
    have e6 := eval_at (dv 6 48 (by kernel_rfl) rfl rfl)
    exact inv_stay hK rfl (by simp only [execOp, nt7o7, e6]; go_simp) (wanted_t q3 rfl rfl)
  | 8, _ =>
    obtain rfl : nt7o8 = o := Option.some.inj (show nt7Ops[8]? = some _ from ho)
    have e3 := eval_at (dv 3 45 (by kernel_rfl) rfl rfl)
    have e7 := eval_at (dv 7 49 (by kernel_rfl) rfl rfl)
    exact inv_stay hK rfl (by simp only [execOp, nt7o8, e3, e7]; go_simp) (wanted_none rfl)
  | 9, _ =>
    obtain rfl : nt7o9 = o := Option.some.inj (show nt7Ops[9]? = some _ from ho)
    have e8 := eval_at (dv 8 50 (by kernel_rfl) rfl rfl)
    exact inv_stay hK rfl (by simp only [execOp, nt7o9, e8]; go_simp) (wanted_none rfl)
  | 10, _ =>
    obtain rfl : nt7o10 = o := Option.some.inj (show nt7Ops[10]? = some _ from ho)
    have q9 := dv 9 51 (by kernel_rfl) rfl rfl
    have eb7 := eval_at (bv h7 (by kernel_rfl))
    have k_ := keep_cellK hR hc7
    exact inv_stay hK rfl (by simp only [execOp, nt7o10, eb7]; go_simp) (wanted_t q9 rfl rfl)
  | 11, _ =>
    obtain rfl : nt7o11 = o := Option.some.inj (show nt7Ops[11]? = some _ from ho)
    have q9 := dv 9 51 (by kernel_rfl) rfl rfl
    have q10 := dv 10 52 (by kernel_rfl) rfl rfl
    refine inv_enter 12 #[.agg #[.slice (some ⟨gx, 0, none⟩) nl cx]] hK (by simp [go_sem, nt7o11, q10]) (wanted_t q9 rfl rfl) ?_
    refine (hr1 x hR).mono ?_
    rintro e y ⟨rfl, h⟩
    exact ⟨_, rfl, rfl, h⟩
  | 12, _ =>
    obtain rfl : nt7o12 = o := Option.some.inj (show nt7Ops[12]? = some _ from ho)
    have q9 := dv 9 51 (by kernel_rfl) rfl rfl
    have eb3 := eval_at (bv h3 (by kernel_rfl))
    have k_ := keep_cellK hR hc3
    exact inv_stay hK rfl (by simp only [execOp, nt7o12, eb3]; go_simp) (wanted_t q9 rfl rfl)
  | 13, _ =>
    obtain rfl : nt7o13 = o := Option.some.inj (show nt7Ops[13]? = some _ from ho)
    have q9 := dv 9 51 (by kernel_rfl) rfl rfl
    have q12 := dv 12 54 (by kernel_rfl) rfl rfl
    refine inv_enter 13 #[.agg #[.slice p nl c]] hK (by simp [go_sem, nt7o13, q12]) (wanted_t q9 rfl rfl) ?_
    refine (hr2 x hR).mono ?_
    rintro e y ⟨rfl, h⟩
    exact ⟨_, rfl, rfl, h⟩
  | 14, _ =>
    obtain rfl : nt7o14 = o := Option.some.inj (show nt7Ops[14]? = some _ from ho)
    have q9 := dv 9 51 (by kernel_rfl) rfl rfl
    have e11 := eval_at (dv 11 53 (by kernel_rfl) rfl rfl)
    have e13 := eval_at (dv 13 55 (by kernel_rfl) rfl rfl)
    exact inv_stay hK rfl (by cases r <;> (simp only [execOp, nt7o14, e11, e13]; go_simp)) (wanted_t q9 rfl rfl)
  | 15, _ =>
    obtain rfl : nt7o15 = o := Option.some.inj (show nt7Ops[15]? = some _ from ho)
    have e9 := eval_at (dv 9 51 (by kernel_rfl) rfl rfl)
    have e14 := eval_at (dv 14 56 (by kernel_rfl) rfl rfl)
    exact inv_stay hK rfl (by simp only [execOp, nt7o15, e9, e14]; go_simp) (wanted_none rfl)
  | 16, _ =>
    obtain rfl : nt7o16 = o := Option.some.inj (show nt7Ops[16]? = some _ from ho)
    have e15 := eval_at (dv 15 57 (by kernel_rfl) rfl rfl)
    exact inv_stay hK rfl (by simp only [execOp, nt7o16, e15]; go_simp) (wanted_none rfl)
  | 17, _ =>
    obtain rfl : nt7o17 = o := Option.some.inj (show nt7Ops[17]? = some _ from ho)
    have q16 := dv 16 58 (by kernel_rfl) rfl rfl
    have eb7 := eval_at (bv h7 (by kernel_rfl))
    have k_ := keep_cellK hR hc7
    exact inv_stay hK rfl (by simp only [execOp, nt7o17, eb7]; go_simp) (wanted_t q16 rfl rfl)
  | 18, _ =>
    obtain rfl : nt7o18 = o := Option.some.inj (show nt7Ops[18]? = some _ from ho)
    have q16 := dv 16 58 (by kernel_rfl) rfl rfl
    have eb8 := eval_at (bv h8 (by kernel_rfl))
    have k_ := keep_cellK hR hc8
    exact inv_stay hK rfl (by simp only [execOp, nt7o18, eb8]; go_simp) (wanted_t q16 rfl rfl)
  | 19, _ =>
    obtain rfl : nt7o19 = o := Option.some.inj (show nt7Ops[19]? = some _ from ho)
    have q16 := dv 16 58 (by kernel_rfl) rfl rfl
    have q17 := dv 17 59 (by kernel_rfl) rfl rfl
    have q18 := dv 18 60 (by kernel_rfl) rfl rfl
    refine inv_enter 14 #[.agg #[.slice (some ⟨gx, 0, none⟩) nl cx], .agg #[.slice (some ⟨gy, 0, none⟩) nm cy]] hK (by simp [go_sem, nt7o19, q17, q18]) (wanted_t q16 rfl rfl) ?_
    refine (hcm1 x hR).mono ?_
    rintro e y ⟨rfl, h⟩
    exact ⟨_, rfl, rfl, h⟩
  | 20, _ =>
    obtain rfl : nt7o20 = o := Option.some.inj (show nt7Ops[20]? = some _ from ho)
    have q16 := dv 16 58 (by kernel_rfl) rfl rfl
    have eb3 := eval_at (bv h3 (by kernel_rfl))
    have k_ := keep_cellK hR hc3
    exact inv_stay hK rfl (by simp only [execOp, nt7o20, eb3]; go_simp) (wanted_t q16 rfl rfl)
  | 21, _ =>
    obtain rfl : nt7o21 = o := Option.some.inj (show nt7Ops[21]? = some _ from ho)
    have q16 := dv 16 58 (by kernel_rfl) rfl rfl
    have eb4 := eval_at (bv h4 (by kernel_rfl))
    have k_ := keep_cellK hR hc4
    exact inv_stay hK rfl (by simp only [execOp, nt7o21, eb4]; go_simp) (wanted_t q16 rfl rfl)
  | 22, _ =>
    obtain rfl : nt7o22 = o := Option.some.inj (show nt7Ops[22]? = some _ from ho)
    have q16 := dv 16 58 (by kernel_rfl) rfl rfl
    have q20 := dv 20 62 (by kernel_rfl) rfl rfl
    have q21 := dv 21 63 (by kernel_rfl) rfl rfl
    refine inv_enter 15 #[.agg #[.slice p nl c], .agg #[.slice q nm d]] hK (by simp [go_sem, nt7o22, q20, q21]) (wanted_t q16 rfl rfl) ?_
    refine (hcm2 x hR).mono ?_
    rintro e y ⟨rfl, h⟩
    exact ⟨_, rfl, rfl, h⟩
  | 23, _ =>
    obtain rfl : nt7o23 = o := Option.some.inj (show nt7Ops[23]? = some _ from ho)
    have q16 := dv 16 58 (by kernel_rfl) rfl rfl
    have e19 := eval_at (dv 19 61 (by kernel_rfl) rfl rfl)
    have e22 := eval_at (dv 22 64 (by kernel_rfl) rfl rfl)
    have kk : (o_ != o_) = false := by simp
    exact inv_stay hK rfl (by simp only [execOp, nt7o23, e19, e22]; go_simp) (wanted_t q16 rfl rfl)
  | 24, _ =>
    obtain rfl : nt7o24 = o := Option.some.inj (show nt7Ops[24]? = some _ from ho)
    have e16 := eval_at (dv 16 58 (by kernel_rfl) rfl rfl)
    have e23 := eval_at (dv 23 65 (by kernel_rfl) rfl rfl)
    exact inv_stay hK rfl (by simp only [execOp, nt7o24, e16, e23]; go_simp) (wanted_none rfl)
  | 25, _ =>
    obtain rfl : nt7o25 = o := Option.some.inj (show nt7Ops[25]? = some _ from ho)
    have e24 := eval_at (dv 24 66 (by kernel_rfl) rfl rfl)
    exact inv_stay hK rfl (by simp only [execOp, nt7o25, e24]; go_simp) (wanted_none rfl)
  | 26, _ =>
    obtain rfl : nt7o26 = o := Option.some.inj (show nt7Ops[26]? = some _ from ho)
    have q25 := dv 25 67 (by kernel_rfl) rfl rfl
    have eb7 := eval_at (bv h7 (by kernel_rfl))
    have k_ := keep_cellK hR hc7
    exact inv_stay hK rfl (by simp only [execOp, nt7o26, eb7]; go_simp) (wanted_t q25 rfl rfl)
  | 27, _ =>
    obtain rfl : nt7o27 = o := Option.some.inj (show nt7Ops[27]? = some _ from ho)
    have q25 := dv 25 67 (by kernel_rfl) rfl rfl
    have q26 := dv 26 68 (by kernel_rfl) rfl rfl
    refine inv_enter 16 #[.agg #[.slice (some ⟨gx, 0, none⟩) nl cx]] hK (by simp [go_sem, nt7o27, q26]) (wanted_t q25 rfl rfl) ?_
    refine (htx1 x hR).mono ?_
    rintro e y ⟨rfl, h⟩
    exact ⟨_, rfl, rfl, h⟩
  | 28, _ =>
    obtain rfl : nt7o28 = o := Option.some.inj (show nt7Ops[28]? = some _ from ho)
    have q25 := dv 25 67 (by kernel_rfl) rfl rfl
    have eb3 := eval_at (bv h3 (by kernel_rfl))
    have k_ := keep_cellK hR hc3
    exact inv_stay hK rfl (by simp only [execOp, nt7o28, eb3]; go_simp) (wanted_t q25 rfl rfl)
  | 29, _ =>
    obtain rfl : nt7o29 = o := Option.some.inj (show nt7Ops[29]? = some _ from ho)
    have q25 := dv 25 67 (by kernel_rfl) rfl rfl
    have q28 := dv 28 70 (by kernel_rfl) rfl rfl
    refine inv_enter 17 #[.agg #[.slice p nl c]] hK (by simp [go_sem, nt7o29, q28]) (wanted_t q25 rfl rfl) ?_
    refine (htx2 x hR).mono ?_
    rintro e y ⟨rfl, h⟩
    exact ⟨_, rfl, rfl, h⟩
  | 30, _ =>
    obtain rfl : nt7o30 = o := Option.some.inj (show nt7Ops[30]? = some _ from ho)
    have q25 := dv 25 67 (by kernel_rfl) rfl rfl
    have e27 := eval_at (dv 27 69 (by kernel_rfl) rfl rfl)
    have e29 := eval_at (dv 29 71 (by kernel_rfl) rfl rfl)
    exact inv_stay hK rfl (by simp only [execOp, nt7o30, e27, e29]; go_simp) (wanted_t q25 rfl rfl)
  | 31, _ =>
    obtain rfl : nt7o31 = o := Option.some.inj (show nt7Ops[31]? = some _ from ho)
    have e25 := eval_at (dv 25 67 (by kernel_rfl) rfl rfl)
    have e30 := eval_at (dv 30 72 (by kernel_rfl) rfl rfl)
    exact inv_stay hK rfl (by simp only [execOp, nt7o31, e25, e30]; go_simp) (wanted_none rfl)
  | 32, _ =>
    obtain rfl : nt7o32 = o := Option.some.inj (show nt7Ops[32]? = some _ from ho)
    have e31 := eval_at (dv 31 73 (by kernel_rfl) rfl rfl)
    exact inv_stay hK rfl (by simp only [execOp, nt7o32, e31]; go_simp) (wanted_none rfl)
  | 33, _ =>
    obtain rfl : nt7o33 = o := Option.some.inj (show nt7Ops[33]? = some _ from ho)
    have q32 := dv 32 74 (by kernel_rfl) rfl rfl
    have eb2 := eval_at (bv h2 (by kernel_rfl))
    exact inv_stay hK rfl (by simp only [execOp, nt7o33, eb2]; go_simp) (wanted_t q32 rfl rfl)
  | 34, _ =>
    obtain rfl : nt7o34 = o := Option.some.inj (show nt7Ops[34]? = some _ from ho)
    have q32 := dv 32 74 (by kernel_rfl) rfl rfl
    have q33 := dv 33 75 (by kernel_rfl) rfl rfl
    refine inv_enter 18 #[.int .u64 (n : Nat)] hK (by simp [go_sem, nt7o34, q33]) (wanted_t q32 rfl rfl) ?_
    refine (hof1 x hR).mono ?_
    rintro e y ⟨q0, n0, c0, rfl, h1, h2, h3⟩
    exact ⟨_, rfl, ⟨_, _, _, _, h2, rfl, h1⟩, h3⟩
  | 35, _ =>
    obtain rfl : nt7o35 = o := Option.some.inj (show nt7Ops[35]? = some _ from ho)
    have q32 := dv 32 74 (by kernel_rfl) rfl rfl
    have eb2 := eval_at (bv h2 (by kernel_rfl))
    exact inv_stay hK rfl (by simp only [execOp, nt7o35, eb2]; go_simp) (wanted_t q32 rfl rfl)
  | 36, _ =>
    obtain rfl : nt7o36 = o := Option.some.inj (show nt7Ops[36]? = some _ from ho)
    have q32 := dv 32 74 (by kernel_rfl) rfl rfl
    have q35 := dv 35 77 (by kernel_rfl) rfl rfl
    refine inv_enter 19 #[.int .u64 (n : Nat)] hK (by simp [go_sem, nt7o36, q35]) (wanted_t q32 rfl rfl) ?_
    refine (hof2 x hR).mono ?_
    rintro e y ⟨q0, n0, c0, rfl, h1, h2, h3⟩
    exact ⟨_, rfl, ⟨_, _, _, _, h2, rfl, h1⟩, h3⟩
  | 37, _ =>
    obtain rfl : nt7o37 = o := Option.some.inj (show nt7Ops[37]? = some _ from ho)
    have q32 := dv 32 74 (by kernel_rfl) rfl rfl
    obtain ⟨t34, g34⟩ := dep 34 (by kernel_rfl)
    have q34 := t34 76 (by rfl)
    have e34 := eval_at q34
    obtain ⟨t36, g36⟩ := dep 36 (by kernel_rfl)
    have q36 := t36 78 (by rfl)
    have e36 := eval_at q36
    obtain ⟨B1, q1, n1, c1, _, hv1, hf1⟩ : (Kc.fnat 0 n).P (f 34) x := g34
    obtain ⟨B2, q2, n2, c2, _, hv2, hf2⟩ : (Kc.fnat 0 n).P (f 36) x := g36
    rw [hv1] at q34
    rw [hv2] at q36
    refine inv_enter 11 #[.agg #[.slice q1 n1 c1], .agg #[.slice q2 n2 c2]] hK (by simp [go_sem, nt7o37, q34, q36]) (wanted_t q32 rfl rfl) ?_
    refine (fnat_same (k := 64) hf1 hf2 hn (by decide)).mono ?_
    rintro e y ⟨rfl, h⟩
    exact ⟨_, rfl, rfl, h⟩
  | 38, _ =>
    obtain rfl : nt7o38 = o := Option.some.inj (show nt7Ops[38]? = some _ from ho)
    have q32 := dv 32 74 (by kernel_rfl) rfl rfl
    have e37 := eval_at (dv 37 79 (by kernel_rfl) rfl rfl)
    exact inv_stay hK rfl (by simp only [execOp, nt7o38, e37]; go_simp) (wanted_t q32 rfl rfl)
  | 39, _ =>
    obtain rfl : nt7o39 = o := Option.some.inj (show nt7Ops[39]? = some _ from ho)
    have e32 := eval_at (dv 32 74 (by kernel_rfl) rfl rfl)
    have e38 := eval_at (dv 38 80 (by kernel_rfl) rfl rfl)
    exact inv_stay hK rfl (by simp only [execOp, nt7o39, e32, e38]; go_simp) (wanted_none rfl)
end Go.Proofs.YtcahnkocfbcchaaGreatDoor

