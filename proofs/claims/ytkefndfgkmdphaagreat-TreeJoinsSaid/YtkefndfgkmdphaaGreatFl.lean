import Derived.OrdersHeld
import Derived.OrdersIn
import Derived.RangeFuncCalls
import Derived.TacticsIn
import Derived.Deep.RegionHeld
import Derived.StillTail

namespace Go

section
variable {P : Program} {md : Region.Mode} {ops : Array Oper} {Q : Exit → Act → World → Prop} {S S2 : World → Prop} {t r : Nat}

def anyLC (S : World → Prop) (t : Nat) (S2 : World → Prop) (r : Nat) (done : Array Bool) (v : World) : Prop := (done.getD t true = false → S v) ∧ (done.getD r true = false → S2 v)
def anyL (P : Program) (md : Region.Mode) (ops : Array Oper) (Q : Exit → Act → World → Prop) (S : World → Prop) (t : Nat) (S2 : World → Prop) (r : Nat) : Nat → Array Bool → Act → World → Prop
 | 0, done, a, w => Region.ready md ops done = [] ∧ Q .normal a w
 | n + 1, done, a, w => (Region.ready md ops done = [] → Q .normal a w) ∧
   ∀ i, i ∈ Region.ready md ops done → wpOp P ops Q i (fun b v => anyLC S t S2 r (done.setIfInBounds i true) v ∧ anyL P md ops Q S t S2 r n (done.setIfInBounds i true) b v) a w

theorem anyL_any (n : Nat) : ∀ (done : Array Bool) (a : Act) (w : World), anyL P md ops Q S t S2 r n done a w → wpAny P md ops Q n done a w := by
 induction n with
 | zero => exact fun _ _ _ h => h
 | succ n ih => exact fun done a w h => ⟨h.1, fun i hi => wpOp_mono (fun b v hb => ih _ b v hb.2) (h.2 i hi)⟩

theorem anyL_ahead {i tt : Nat} {SS : World → Prop} {oi : Oper} {u : Value} (hpair : ∀ done v, anyLC S t S2 r done v → done.getD tt true = false → SS v) (hi : ops[i]? = some oi) (hsel : ∀ (j : Nat) (o : Oper) cs b, ops[j]? = some o → o.op ≠ .select cs b)
  (hQ : ∀ c a w, Q (.panic c) (a.put oi.dst u) w → Q (.panic c) a w) (_hti : tt ≠ i) (ht1 : t ≠ i) (ht2 : r ≠ i) (hwait : Region.waitsFor md ops tt i = true) (n : Nat) :
  ∀ (done : Array Bool) (a : Act) (w : World), (∀ j oj, ops[j]? = some oj → j ≠ i → done.getD j true = false → (∀ e ∈ oj.after, Region.binds md e = true → e.on ≠ i) → oi.apart ops oj = true) →
   i ∈ Region.ready md ops done → done.getD tt true = false → YieldsIf P ops SS oi u a → anyLC S t S2 r done w → anyL P md ops Q S t S2 r n (done.setIfInBounds i true) (a.put oi.dst u) w → anyL P md ops Q S t S2 r (n + 1) done a w := by
 obtain ⟨ot, hot, et, het, hbt, hon⟩ := Region.waitsFor_spec hwait
 have hCi : ∀ (done : Array Bool) v, anyLC S t S2 r done v → anyLC S t S2 r (done.setIfInBounds i true) v := fun done v h =>
  ⟨fun hd => h.1 (by rw [getD_set_ne true (Ne.symm ht1)] at hd; exact hd), fun hd => h.2 (by rw [getD_set_ne true (Ne.symm ht2)] at hd; exact hd)⟩
 have hCb : ∀ (done : Array Bool) v, anyLC S t S2 r (done.setIfInBounds i true) v → anyLC S t S2 r done v := fun done v h =>
  ⟨fun hd => h.1 (by rw [getD_set_ne true (Ne.symm ht1)]; exact hd), fun hd => h.2 (by rw [getD_set_ne true (Ne.symm ht2)]; exact hd)⟩
 induction n with
 | zero =>
  intro done a w _ hr _ hy hS H
  constructor
  ·intro h; rw [h] at hr; cases hr
  ·intro j hj
   by_cases e : j = i
   ·rw [e]; exact hy.wpOp hi (hpair _ _ hS (by assumption)) ⟨hCi _ _ hS, H⟩
   ·have h0 := ready_mono hj e
    rw [H.1] at h0; cases h0
 | succ n ih =>
  intro done a w hfree hr hdt hy hS H
  constructor
  ·intro h; rw [h] at hr; cases hr
  ·intro j hj
   by_cases e : j = i
   ·rw [e]; exact hy.wpOp hi (hpair _ _ hS hdt) ⟨hCi _ _ hS, H⟩
   ·have hir := (mem_ready.1 hr).1
    obtain ⟨hjd, oj, hoj, hbef⟩ := mem_ready.1 hj
    have hno : ∀ d ∈ oj.after, Region.binds md d = true → d.on ≠ i := by
     intro d hd hb k
     have h1 := hbef d hd hb
     rw [k] at h1
     by_cases hs : i < done.size
     ·simp [hs] at hir h1
      rw [hir] at h1; cases h1
     ·simp [Array.getElem?_eq_none (Nat.le_of_not_lt hs)] at h1
    have hjt : j ≠ tt := by
     intro k
     rw [k, hot] at hoj
     cases hoj
     exact hno et het hbt hon
    have step := wpOp_putIf hoj (hfree j oj hoj e hjd hno) (fun cs b => hsel i oi cs b hi) (fun cs b => hsel j oj cs b hoj) hQ hy (H.2 j (ready_mono hj e))
    have hdt2 : (done.setIfInBounds j true).getD tt true = false := by rw [getD_set_ne true hjt]; exact hdt
    refine wpOp_mono (fun b v hb => ?_) step
    have hcv : anyLC S t S2 r (done.setIfInBounds j true) v := by
     have := hb.2.1
     rw [Array.setIfInBounds_comm _ _ (Ne.symm e)] at this
     exact hCb _ _ this
    refine ⟨hcv, ih _ b v (fun x ox hx hxi hxd hxn => hfree x ox hx hxi ?_ hxn) (ready_mono hr (Ne.symm e)) hdt2 hb.1 hcv ?_⟩
    ·by_cases k : j = x
     ·rw [← k]; exact hjd
     ·rw [getD_set_ne true k] at hxd; exact hxd
    ·rw [Array.setIfInBounds_comm _ _ e]; exact hb.2.2

theorem anyL_take1 {i : Nat} {oi : Oper} {u : Value} {n : Nat} {done : Array Bool} {a : Act} {w : World} (hi : ops[i]? = some oi)
  (hb : (Region.noSelect ops && Region.free md ops done i && (Region.ready md ops done).contains i && (t != i) && (r != i) && Region.waitsFor md ops t i && !(done.getD t true)) = true)
  (hQ : ∀ c a w, Q (.panic c) (a.put oi.dst u) w → Q (.panic c) a w) (hy : YieldsIf P ops S oi u a) (hS : anyLC S t S2 r done w)
  (h : anyL P md ops Q S t S2 r n (done.setIfInBounds i true) (a.put oi.dst u) w) : anyL P md ops Q S t S2 r (n + 1) done a w := by
 simp only [Bool.and_eq_true] at hb
 obtain ⟨⟨⟨⟨⟨⟨h1, h2⟩, h3⟩, h4⟩, h7⟩, h5⟩, h6⟩ := hb
 exact anyL_ahead (tt := t) (SS := S) (fun _ _ hc hd => hc.1 hd) hi (Region.noSelect_spec h1) hQ (by simpa using h4) (by simpa using h4) (by simpa using h7) h5 n done a w (Region.free_spec hi h2) (by simpa using h3) (by simpa using h6) hy hS h
theorem anyL_take2 {i : Nat} {oi : Oper} {u : Value} {n : Nat} {done : Array Bool} {a : Act} {w : World} (hi : ops[i]? = some oi)
  (hb : (Region.noSelect ops && Region.free md ops done i && (Region.ready md ops done).contains i && (t != i) && (r != i) && Region.waitsFor md ops r i && !(done.getD r true)) = true)
  (hQ : ∀ c a w, Q (.panic c) (a.put oi.dst u) w → Q (.panic c) a w) (hy : YieldsIf P ops S2 oi u a) (hS : anyLC S t S2 r done w)
  (h : anyL P md ops Q S t S2 r n (done.setIfInBounds i true) (a.put oi.dst u) w) : anyL P md ops Q S t S2 r (n + 1) done a w := by
 simp only [Bool.and_eq_true] at hb
 obtain ⟨⟨⟨⟨⟨⟨h1, h2⟩, h3⟩, h4⟩, h7⟩, h5⟩, h6⟩ := hb
 exact anyL_ahead (tt := r) (SS := S2) (fun _ _ hc hd => hc.2 hd) hi (Region.noSelect_spec h1) hQ (by simpa using h7) (by simpa using h4) (by simpa using h7) h5 n done a w (Region.free_spec hi h2) (by simpa using h3) (by simpa using h6) hy hS h
theorem anyL_done {done : Array Bool} {a : Act} {w : World} (hr : Region.ready md ops done = []) (h : Q .normal a w) (n : Nat) : anyL P md ops Q S t S2 r n done a w := by
 cases n with
 | zero => exact ⟨hr, h⟩
 | succ n => exact ⟨fun _ => h, by rw [hr]; simp⟩
theorem anyL_at {i : Nat} {o : Oper} {n : Nat} {done : Array Bool} {a : Act} {w : World} (ho : ops[i]? = some o)
  (h : ∀ K : Act → World → Prop, Shut (∀ b v, anyLC S t S2 r (done.setIfInBounds i true) v → anyL P md ops Q S t S2 r n (done.setIfInBounds i true) b v → K b v) → if Region.wanted o (yielded ops a.tmps) = true then Oper.wp P o a w K Q else K (a.put o.dst undef) w) :
  wpOp P ops Q i (fun b v => anyLC S t S2 r (done.setIfInBounds i true) v ∧ anyL P md ops Q S t S2 r n (done.setIfInBounds i true) b v) a w := by
 unfold wpOp
 simp only [ho]
 have h2 := h (fun b v => anyLC S t S2 r (done.setIfInBounds i true) v ∧ anyL P md ops Q S t S2 r n (done.setIfInBounds i true) b v) (fun b v h3 h4 => ⟨h3, h4⟩)
 split
 ·rename_i hw
  rw [if_pos hw] at h2
  exact .inl h2
 ·rename_i hw
  rw [if_neg hw] at h2
  exact h2
theorem anyL_one {i : Nat} {o : Oper} {n : Nat} {done : Array Bool} {a : Act} {w : World} (hr : Region.ready md ops done = [i]) (ho : ops[i]? = some o)
  (h : ∀ K : Act → World → Prop, Shut (∀ b v, anyLC S t S2 r (done.setIfInBounds i true) v → anyL P md ops Q S t S2 r n (done.setIfInBounds i true) b v → K b v) → if Region.wanted o (yielded ops a.tmps) = true then Oper.wp P o a w K Q else K (a.put o.dst undef) w) :
  anyL P md ops Q S t S2 r (n + 1) done a w := by
 refine ⟨fun h0 => absurd (hr ▸ h0) (by simp), fun j hj => ?_⟩
 rw [hr] at hj
 cases List.mem_singleton.1 hj
 exact anyL_at ho h
theorem anyL_two {i k : Nat} {o o' : Oper} {n : Nat} {done : Array Bool} {a : Act} {w : World} (hr : Region.ready md ops done = [i, k]) (ho : ops[i]? = some o) (ho' : ops[k]? = some o')
  (h : ∀ K : Act → World → Prop, Shut (∀ b v, anyLC S t S2 r (done.setIfInBounds i true) v → anyL P md ops Q S t S2 r n (done.setIfInBounds i true) b v → K b v) → if Region.wanted o (yielded ops a.tmps) = true then Oper.wp P o a w K Q else K (a.put o.dst undef) w)
  (h' : ∀ K : Act → World → Prop, Shut (∀ b v, anyLC S t S2 r (done.setIfInBounds k true) v → anyL P md ops Q S t S2 r n (done.setIfInBounds k true) b v → K b v) → if Region.wanted o' (yielded ops a.tmps) = true then Oper.wp P o' a w K Q else K (a.put o'.dst undef) w) :
  anyL P md ops Q S t S2 r (n + 1) done a w := by
 refine ⟨fun h0 => absurd (hr ▸ h0) (by simp), fun j hj => ?_⟩
 rw [hr] at hj
 rcases List.mem_cons.1 hj with e | hj
 ·cases e; exact anyL_at ho h
 ·cases List.mem_singleton.1 hj
  exact anyL_at ho' h'
def onlyN (K : Act → World → Prop) : Exit → Act → World → Prop
 | .normal, a, w => K a w
 | _, _, _ => False
theorem tk2 (i : Nat) {oi : Oper} {u : Value} {n : Nat} {done : Array Bool} {a : Act} {w : World} {Q0 : Act → World → Prop} (h12 : S w ∧ S2 w)
 (h : anyL P md ops (onlyN Q0) S t S2 r n (done.setIfInBounds i true) (a.put oi.dst u) w) (hi : ops.toList[i]? = some oi := by rfl)
 (hb : (Region.noSelect ops && Region.free md ops done i && (Region.ready md ops done).contains i && (t != i) && (r != i) && Region.waitsFor md ops r i && !(done.getD r true)) = true := by kernel_rfl)
 (hw : Region.wanted oi (yielded ops a.tmps) = true := by kernel_rfl) (hy : ∀ w, S2 w → (execOp a.eval oi).run P w = .ok (.value u) w := by intro w hSw; (try dsimp only at hSw); go_simp; try with_reducible rfl) : anyL P md ops (onlyN Q0) S t S2 r (n + 1) done a w :=
 anyL_take2 (by rw [← Array.getElem?_toList]; exact hi) hb (fun _ _ _ h => h) (Or.inl ⟨hw, hy⟩) ⟨fun _ => h12.1, fun _ => h12.2⟩ h
theorem tk1 (i : Nat) {oi : Oper} {u : Value} {n : Nat} {done : Array Bool} {a : Act} {w : World} {Q0 : Act → World → Prop} (h12 : S w ∧ S2 w)
 (h : anyL P md ops (onlyN Q0) S t S2 r n (done.setIfInBounds i true) (a.put oi.dst u) w) (hi : ops.toList[i]? = some oi := by rfl)
 (hb : (Region.noSelect ops && Region.free md ops done i && (Region.ready md ops done).contains i && (t != i) && (r != i) && Region.waitsFor md ops t i && !(done.getD t true)) = true := by kernel_rfl)
 (hw : Region.wanted oi (yielded ops a.tmps) = true := by kernel_rfl) (hy : ∀ w, S w → (execOp a.eval oi).run P w = .ok (.value u) w := by intro w hSw; (try dsimp only at hSw); go_simp; try with_reducible rfl) : anyL P md ops (onlyN Q0) S t S2 r (n + 1) done a w :=
 anyL_take1 (by rw [← Array.getElem?_toList]; exact hi) hb (fun _ _ _ h => h) (Or.inl ⟨hw, hy⟩) ⟨fun _ => h12.1, fun _ => h12.2⟩ h
theorem tu1 (i : Nat) {oi : Oper} {n : Nat} {done : Array Bool} {a : Act} {w : World} {Q0 : Act → World → Prop} (h12 : S w ∧ S2 w)
 (h : anyL P md ops (onlyN Q0) S t S2 r n (done.setIfInBounds i true) (a.put oi.dst undef) w) (hi : ops.toList[i]? = some oi := by rfl)
 (hb : (Region.noSelect ops && Region.free md ops done i && (Region.ready md ops done).contains i && (t != i) && (r != i) && Region.waitsFor md ops t i && !(done.getD t true)) = true := by kernel_rfl) (hw : Region.wanted oi (yielded ops a.tmps) = false := by kernel_rfl) : anyL P md ops (onlyN Q0) S t S2 r (n + 1) done a w :=
 anyL_take1 (by rw [← Array.getElem?_toList]; exact hi) hb (fun _ _ _ h => h) (Or.inr ⟨hw, rfl⟩) ⟨fun _ => h12.1, fun _ => h12.2⟩ h
theorem aone (i : Nat) {o : Oper} {n : Nat} {done : Array Bool} {a : Act} {w : World}
 (h : ∀ K : Act → World → Prop, Shut (∀ b v, anyLC S t S2 r (done.setIfInBounds i true) v → anyL P md ops Q S t S2 r n (done.setIfInBounds i true) b v → K b v) → if Region.wanted o (yielded ops a.tmps) = true then Oper.wp P o a w K Q else K (a.put o.dst undef) w)
 (hr : Region.ready md ops done = [i] := by kernel_rfl) (ho : ops.toList[i]? = some o := by rfl) : anyL P md ops Q S t S2 r (n + 1) done a w := anyL_one hr (by rw [← Array.getElem?_toList]; exact ho) h
theorem wp_region_L {id : Nat} {a : Act} {w : World} (t r : Nat) (hm : P.follows .mixedOrders = true) (h : anyL P .any ops (onlyN (Q .normal)) S t S2 r ops.size (Array.replicate ops.size false) a w.drew) : (Code.region id ops true).wp P Q a w := by
 have h1 : (Code.region id ops true).wp P (onlyN (Q .normal)) a w := wp_region_any hm (anyL_any _ _ _ _ h)
 intro b k cs
 obtain ⟨e, a', w', q, x⟩ := h1 b k cs
 cases e <;> first | exact ⟨_, a', w', q, x⟩ | exact (show False from q).elim
def noDefer (ops : Array Oper) : Bool := ops.all fun o => match o.op with | .defer _ => false | _ => true
theorem rowsIn_of {n : Nat} {row : String} {args : Array Value} {w : World} {R : Value → World → Prop} (h : Rows P row args w R) : RowsIn Fence.wide n P row args w R :=
 fun c cs _ => let ⟨v, w', r, s⟩ := h c cs; ⟨v, w', r, stepsIn_wide.2 s⟩
theorem wpIn_of_wp {l n : Nat} {o : Oper} {a : Act} {w : World} {K : Act → World → Prop} (hd : ∀ c, o.op ≠ .defer c) (h : o.wp P a w K Q) : o.wpIn (Fence.wide.inRound l) n P a w K Q := by
 refine ⟨fun _ _ => trivial, ?_⟩
 rw [show (Fence.wide.inRound l).round = some l from rfl, Oper.semAt_some l _ _ hd]
 unfold Oper.wp at h
 generalize (execOp a.eval o).run P w = r at h ⊢
 cases r with
 | ok x w' =>
  cases x <;> simp only [Oper.upon, Oper.uponIn] at h ⊢
  case enter f args => exact ⟨fun h => by simp [Fence.wide] at h, CallsIn.inRound l (callsIn_wide.2 h)⟩
  case row f args => exact ⟨fun h => by simp [Fence.wide] at h, rowsIn_of h⟩
  all_goals exact h
 | halt x w' => cases x <;> simp only [Oper.upon, Oper.uponIn] at h ⊢ <;> exact h
theorem anyIn_of_any {l n : Nat} (hL : ¬ LetsOut Q) (hd : ∀ (i : Nat) (o : Oper), ops[i]? = some o → ∀ c, o.op ≠ .defer c) : ∀ (m : Nat) (done : Array Bool) (a : Act) (w : World), wpAny P md ops Q m done a w → wpAnyIn (Fence.wide.inRound l) n P md ops Q m done a w
 | 0, _, _, _, h => h
 | m + 1, done, a, w, h => by
  refine ⟨h.1, fun i hi => ?_⟩
  have h2 := h.2 i hi
  unfold wpOp at h2
  unfold wpOpIn
  cases ho : ops[i]? with
  | none => simp only [ho] at h2 ⊢; exact anyIn_of_any hL hd m _ _ _ h2
  | some o =>
   simp only [ho] at h2 ⊢
   split
   ·rename_i hw
    rw [if_pos hw] at h2
    rcases h2 with h2 | h2
    ·exact Oper.wpIn_mono (fun a w h => anyIn_of_any hL hd m _ _ _ h) (wpIn_of_wp (hd i o ho) h2)
    ·exact absurd h2.2 hL
   ·rename_i hw
    rw [if_neg hw] at h2
    exact ⟨fun _ _ => trivial, anyIn_of_any hL hd m _ _ _ h2⟩
theorem wpIn_region_L {id l n : Nat} {a : Act} {w : World} (t r : Nat) (hm : P.follows .mixedOrders = true) (hd : noDefer ops = true) (h : anyL P .any ops (onlyN (Q .normal)) S t S2 r ops.size (Array.replicate ops.size false) a w.drew) : (Code.region id ops true).wpIn (Fence.wide.inRound l) n P Q a w := by
 have h1 : (Code.region id ops true).wpIn (Fence.wide.inRound l) n P (onlyN (Q .normal)) a w := by
  refine wpIn_region_any hm (anyIn_of_any (by rintro ⟨_, _, h⟩; exact h) (fun i o ho c hc => ?_) _ _ _ _ (anyL_any _ _ _ _ h))
  unfold noDefer at hd
  rw [Array.all_eq_true] at hd
  have hi : i < ops.size := by
   rcases Nat.lt_or_ge i ops.size with h | h
   ·exact h
   ·simp [Array.getElem?_eq_none h] at ho
  have h1 := hd i hi
  have e : ops[i] = o := by rw [Array.getElem?_eq_getElem hi] at ho; exact Option.some.inj ho
  rw [e, hc] at h1
  cases h1
 intro b k cs x1 x2 x3
 obtain ⟨e, a', w', q, x⟩ := h1 b k cs x1 x2 x3
 cases e <;> first | exact ⟨_, a', w', q, x⟩ | exact (show False from q).elim
end
end Go
