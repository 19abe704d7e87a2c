/- A drawn region in which a condition on the world holds until one operation, the last, has come up: so that one may write what the others read. Of no program. -/
import Derived.OrdersHeld
import Derived.Deep.RegionHeld
import Derived.StillTail

namespace Go

section
variable {P : Program} {md : Region.Mode} {ops : Array Oper} {Q : Exit → Act → World → Prop} {S : World → Prop} {t : Nat}

/-- The condition is asked behind an operation only while number t is left. -/
def anyK (P : Program) (md : Region.Mode) (ops : Array Oper) (Q : Exit → Act → World → Prop) (S : World → Prop) (t : Nat) : Nat → Array Bool → Act → World → Prop
  | 0, done, a, w => Region.ready md ops done = [] ∧ Q .normal a w
  | n + 1, done, a, w => (Region.ready md ops done = [] → Q .normal a w) ∧
      ∀ i, i ∈ Region.ready md ops done → wpOp P ops Q i (fun b v => ((done.setIfInBounds i true).getD t true = false → S v) ∧ anyK P md ops Q S t n (done.setIfInBounds i true) b v) a w

theorem anyK_any (n : Nat) : ∀ (done : Array Bool) (a : Act) (w : World), anyK P md ops Q S t n done a w → wpAny P md ops Q n done a w := by
  induction n with
  | zero => exact fun _ _ _ h => h
  | succ n ih => exact fun done a w h => ⟨h.1, fun i hi => wpOp_mono (fun b v hb => ih _ b v hb.2) (h.2 i hi)⟩

/-- One that t waits for, that may come up and yields its value in every world of the condition, is taken ahead of the others. -/
theorem anyK_ahead {i : Nat} {oi : Oper} {u : Value} (hi : ops[i]? = some oi) (hsel : ∀ (j : Nat) (o : Oper) cs b, ops[j]? = some o → o.op ≠ .select cs b)
    (hQ : ∀ c a w, Q (.panic c) (a.put oi.dst u) w → Q (.panic c) a w) (hti : t ≠ i) (hwait : Region.waitsFor md ops t i = true) (n : Nat) :
    ∀ (done : Array Bool) (a : Act) (w : World), (∀ j oj, ops[j]? = some oj → j ≠ i → done.getD j true = false → (∀ e ∈ oj.after, Region.binds md e = true → e.on ≠ i) → oi.apart ops oj = true) →
      i ∈ Region.ready md ops done → done.getD t true = false → YieldsIf P ops S oi u a → S w → anyK P md ops Q S t n (done.setIfInBounds i true) (a.put oi.dst u) w → anyK P md ops Q S t (n + 1) done a w := by
  obtain ⟨ot, hot, et, het, hbt, hon⟩ := Region.waitsFor_spec hwait
  induction n with
  | zero =>
    intro done a w _ hr _ hy hS H
    constructor
    · intro h; rw [h] at hr; cases hr
    · intro j hj
      by_cases e : j = i
      · rw [e]; exact hy.wpOp hi hS ⟨fun _ => hS, H⟩
      · have h0 := ready_mono hj e
        rw [H.1] at h0; cases h0
  | succ n ih =>
    intro done a w hfree hr hdt hy hS H
    constructor
    · intro h; rw [h] at hr; cases hr
    · intro j hj
      by_cases e : j = i
      · rw [e]; exact hy.wpOp hi hS ⟨fun _ => hS, H⟩
      · have hir := (mem_ready.1 hr).1
        obtain ⟨hjd, oj, hoj, hbef⟩ := mem_ready.1 hj
        have hno : ∀ d ∈ oj.after, Region.binds md d = true → d.on ≠ i := by
          intro d hd hb k
          have h1 := hbef d hd hb
          rw [k] at h1
          by_cases hs : i < done.size
          · simp [hs] at hir h1
            rw [hir] at h1; cases h1
          · simp [Array.getElem?_eq_none (Nat.le_of_not_lt hs)] at h1
        have hjt : j ≠ t := by
          intro k
          rw [k, hot] at hoj
          cases hoj
          exact hno et het hbt hon
        have step := wpOp_putIf hoj (hfree j oj hoj e hjd hno) (fun cs b => hsel i oi cs b hi) (fun cs b => hsel j oj cs b hoj) hQ hy (H.2 j (ready_mono hj e))
        have hdt2 : (done.setIfInBounds j true).getD t true = false := by rw [getD_set_ne true hjt]; exact hdt
        refine wpOp_mono (fun b v hb => ?_) step
        have hSv : S v := hb.2.1 (by rw [getD_set_ne true hjt, getD_set_ne true (Ne.symm hti)]; exact hdt)
        refine ⟨fun _ => hSv, ih _ b v (fun x ox hx hxi hxd hxn => hfree x ox hx hxi ?_ hxn) (ready_mono hr (Ne.symm e)) hdt2 hb.1 hSv ?_⟩
        · by_cases k : j = x
          · rw [← k]; exact hjd
          · rw [getD_set_ne true k] at hxd; exact hxd
        · rw [Array.setIfInBounds_comm _ _ e]; exact hb.2.2

theorem anyK_take {i : Nat} {oi : Oper} {u : Value} {n : Nat} {done : Array Bool} {a : Act} {w : World} (hi : ops[i]? = some oi)
    (hb : (Region.noSelect ops && Region.free md ops done i && (Region.ready md ops done).contains i && (t != i) && Region.waitsFor md ops t i && !(done.getD t true)) = true)
    (hQ : ∀ c a w, Q (.panic c) (a.put oi.dst u) w → Q (.panic c) a w) (hy : YieldsIf P ops S oi u a) (hS : S w)
    (h : anyK P md ops Q S t n (done.setIfInBounds i true) (a.put oi.dst u) w) : anyK P md ops Q S t (n + 1) done a w := by
  simp only [Bool.and_eq_true] at hb
  obtain ⟨⟨⟨⟨⟨h1, h2⟩, h3⟩, h4⟩, h5⟩, h6⟩ := hb
  exact anyK_ahead hi (Region.noSelect_spec h1) hQ (by simpa using h4) h5 n done a w (Region.free_spec hi h2) (by simpa using h3) (by simpa using h6) hy hS h
theorem anyK_done {done : Array Bool} {a : Act} {w : World} (hr : Region.ready md ops done = []) (h : Q .normal a w) (n : Nat) : anyK P md ops Q S t n done a w := by
  cases n with
  | zero => exact ⟨hr, h⟩
  | succ n => exact ⟨fun _ => h, by rw [hr]; simp⟩
/-- The only one that may come up. -/
theorem anyK_one {i : Nat} {o : Oper} {n : Nat} {done : Array Bool} {a : Act} {w : World} (hr : Region.ready md ops done = [i]) (ho : ops[i]? = some o)
    (h : ∀ K : Act → World → Prop, Shut (∀ b v, ((done.setIfInBounds i true).getD t true = false → S v) → anyK P md ops Q S t n (done.setIfInBounds i true) b v → K b v) → if Region.wanted o (yielded ops a.tmps) = true then Oper.wp P o a w K Q else K (a.put o.dst undef) w) :
    anyK P md ops Q S t (n + 1) done a w := by
  refine ⟨fun h0 => absurd (hr ▸ h0) (by simp), fun j hj => ?_⟩
  rw [hr] at hj
  cases List.mem_singleton.1 hj
  unfold wpOp
  simp only [ho]
  have h2 := h (fun b v => ((done.setIfInBounds i true).getD t true = false → S v) ∧ anyK P md ops Q S t n (done.setIfInBounds i true) b v) (fun b v h3 h4 => ⟨h3, h4⟩)
  split
  · rename_i hw
    rw [if_pos hw] at h2
    exact .inl h2
  · rename_i hw
    rw [if_neg hw] at h2
    exact h2
theorem wp_region_K {id : Nat} {a : Act} {w : World} (t : Nat) (hm : P.follows .mixedOrders = true) (h : anyK P .any ops Q S t ops.size (Array.replicate ops.size false) a w.drew) : (Code.region id ops true).wp P Q a w :=
  wp_region_any hm (anyK_any _ _ _ _ h)
end
end Go
