import Derived.Test.YtkefndfgkmdphaaGreatFi
import Derived.Test.YtkefndfgkmdphaaGreatJc

namespace Go.Proofs.YtkefndfgkmdphaaGreat
set_option maxHeartbeats 1600000
set_option maxRecDepth 100000
open Go.RowKit Tnr Tnt

def HasOk (f : FuncId) (P : Nd → Bool) (T : NV → NV) : Prop := ∀ (b : Nat) (x : NV) (w : World), NodeAt w b x → NodeIn w x → (∀ g off, x.ps = some ⟨g, off, none⟩ → x.nd.set ≠ [] → g ≠ b) →
 Calls Tryz.prog f #[.pointer (some ⟨b, 0, none⟩)] w fun e w' => e = .returned (.bool (P x.nd)) ∧ (P x.nd = true → NodeAt w' b (T x)) ∧ Below b w w'
theorem has_bare : HasOk 199 bareB id := fun b x w hX _ _ => (bare_any b x w hX).mono fun _e _w' ⟨h1, h2⟩ => ⟨h1, fun _ => h2 ▸ hX, h2 ▸ Below.refl _ _⟩
theorem has_set : HasOk 200 setB noSet := fun b x w hX hI hr => (set_any b x w hX hI hr).mono fun _e _w' ⟨h1, h2, h3⟩ => ⟨h1, fun _ => h2, h3⟩
theorem has_group : HasOk 201 (fun _ => true) noGroup := fun b x w hX _ _ => (group_any b x w hX).mono fun _e _w' ⟨h1, h2, h3⟩ => ⟨h1, fun _ => h2, h3⟩
theorem has_not : HasOk 204 (fun _ => true) noNot := fun b x w hX _ _ => (not_any b x w hX).mono fun _e _w' ⟨h1, h2, h3⟩ => ⟨h1, fun _ => h2, h3⟩
theorem has_spot : HasOk 203 spotB noSpot := fun b x w hX _ _ => (spot_any b x w hX).mono fun _e _w' ⟨h1, h2, h3⟩ => ⟨h1, fun _ => h2, h3⟩
theorem has_try : HasOk 205 tryB noMode := fun b x w hX _ _ => (try_any b x w hX).mono fun _e _w' ⟨h1, h2, h3⟩ => ⟨h1, fun _ => h2, h3⟩
theorem has_repeat : HasOk 202 repeatB noTimes := fun b x w hX _ _ => repeat_any b x w hX

theorem NodeIn.ahead {w : World} {x : NV} (h : NodeIn w x) {b : Nat} (hb : w.heap.size ≤ b) (g off : Nat) (hp : x.ps = some ⟨g, off, none⟩) (hs : x.nd.set ≠ []) : g ≠ b := by
 rcases h.set with h0 | ⟨g', off', h1, h2⟩
 ·exact absurd h0 hs
 ·rw [hp] at h1; cases h1
  have := World.block_lt_of_cell? w _ (h2 0 (by cases hl : x.nd.set with | nil => exact absurd hl hs | cons a l => simp)).1
  show g ≠ b
  have : g < w.heap.size := this
  omega
theorem run_eq_func (f : FuncId) (w : World) : (binOp BinOp.eql 251 (.func (.func f) #[] #[]) Value.nilFunc).run Tryz.prog w = .ok (.bool false) w := by kernel_rfl
theorem run_eq_nilf (w : World) : (binOp BinOp.eql 251 Value.nilFunc Value.nilFunc).run Tryz.prog w = .ok (.bool true) w := by kernel_rfl
attribute [local go_sem] run_eq_func run_eq_nilf
def fitsB (lo hi : Int) (P : Nd → Bool) (T : NV → NV) (x : NV) : Bool := decide (lo ≤ (x.nd.kids.length : Int)) && (decide ((x.nd.kids.length : Int) ≤ hi) && (P x.nd && bareB (T x).nd))
theorem fits_bare (lo hi : Int) (x : NV) (w : World) (hI : NodeIn w x) :
  Calls Tryz.prog 172 #[.agg #[.int .i64 lo, .int .i64 hi, .func (.func 199) #[] #[]], .agg (encN x).toArray] w fun e w' => e = .returned (.bool (fitsB lo hi bareB id x)) ∧ Below w.heap.size w w' := by
 obtain ⟨P, hP⟩ : ∃ P : Nd → Bool, P = bareB := ⟨_, rfl⟩
 obtain ⟨T, hT⟩ : ∃ T : NV → NV, T = id := ⟨_, rfl⟩
 have hf : HasOk 199 P T := by rw [hP, hT]; exact has_bare
 rw [← hP, ← hT]
 clear hP hT
 obtain ⟨ls, lk, hls, hlk, h⟩ := node_lit2 x
 have HE : Hid (fitsB lo hi P T x = (decide (lo ≤ (lk : Int)) && (decide ((lk : Int) ≤ hi) && (P x.nd && bareB (T x).nd)))) := by show _ = _; rw [hlk]; rfl
 obtain ⟨W2, hW2⟩ : ∃ W, W = (w.alloc (.cells #[.int .i64 lo, .int .i64 hi, .func (.func 199) #[] #[]] 253)).alloc (.cells (encN x).toArray 28) := ⟨_, rfl⟩
 have hb2 : Below w.heap.size w W2 := by rw [hW2]; exact bl_trans (bl_alloc _ _) (bl_alloc _ _)
 have hs2 : W2.heap.size = w.heap.size + 1 + 1 := by rw [hW2]; simp
 have hX : NodeAt (W2.alloc (.cells (encN x).toArray 272)) (w.heap.size + 1 + 1) x := by
  have h := Bx.new W2 272 (encN x).toArray
  rw [hs2] at h; exact h
 have hb3 : Below w.heap.size w (W2.alloc (.cells (encN x).toArray 272)) := hb2.trans ((bl_alloc _ _).mono hb2.size)
 have HC := lh (hf (w.heap.size + 1 + 1) x _ hX (hI.below hb3) (fun g off hp hs => hI.ahead (by omega) g off hp hs))
 have HB2 := lh hb2
 have HB3 := lh hb3
 have HH := lh h
 unfold NodeLit at h
 rw [h] at hW2 HC HB3 ⊢
 clear h hls hlk hX hb2 hb3 hs2 hI hf
 rw [hW2] at HC HB3 HB2
 clear hW2
 by_cases h1 : (lk : Int) < lo
 ·have e1 : decide ((lk : Int) < lo) = true := by simpa using h1
  have HF : Hid (fitsB lo hi P T x = false) := by show _ = _; rw [HE.out]; simp; omega
  clear h1
  go_enter Tryz.func172, Tryz.ntmps172
  go_wp2
  go_ret
  exact ⟨by rw [HF.out]; rfl, HB2.out⟩
 ·have e1 : decide ((lk : Int) < lo) = false := by simpa using h1
  by_cases h2 : hi < (lk : Int)
  ·have e2 : decide (hi < (lk : Int)) = true := by simpa using h2
   have HF : Hid (fitsB lo hi P T x = false) := by show _ = _; rw [HE.out]; simp; omega
   clear h1 h2
   go_enter Tryz.func172, Tryz.ntmps172
   go_wp2
   go_ret
   exact ⟨by rw [HF.out]; rfl, HB2.out⟩
  ·have e2 : decide (hi < (lk : Int)) = false := by simpa using h2
   have HG : Hid (fitsB lo hi P T x = (P x.nd && bareB (T x).nd)) := by show _ = _; rw [HE.out, show decide (lo ≤ (lk : Int)) = true by simp; omega, show decide ((lk : Int) ≤ hi) = true by simp; omega]; rfl
   clear h1 h2
   obtain ⟨bb, hbb⟩ : ∃ b : Bool, b = P x.nd := ⟨_, rfl⟩
   rw [← hbb] at HC HG
   clear hbb
   have HSZ : Hid (w.heap.size ≤ w.heap.size + 1 + 1) := by show _ ≤ _; omega
   cases bb with
   | true =>
    go_enter Tryz.func172, Tryz.ntmps172
    go_wp2_with (first | (go_at_call 199; with_reducible refine (HC.out).mono ?_; rintro e w5 ⟨rfl, h1, h2⟩; have HC2 := lh (bare_any _ _ _ (h1 rfl)); have HB5 := lh (HB3.out.trans (h2.mono HSZ.out)); clear HC HB3 HB2 h1 h2) | (go_at_call 199; refine (HC2.out).mono ?_; rintro e w' ⟨rfl, rfl⟩))
    go_ret
    exact ⟨by rw [HG.out]; rfl, HB5.out⟩
   | false =>
    go_enter Tryz.func172, Tryz.ntmps172
    go_wp2_with (go_at_call 199; refine (HC.out).mono ?_; rintro e w5 ⟨rfl, _, h2⟩; have HB5 := lh (HB3.out.trans (h2.mono HSZ.out)); clear HC HB3 HB2 h2)
    go_ret
    exact ⟨by rw [HG.out]; rfl, HB5.out⟩
theorem fits_set (lo hi : Int) (x : NV) (w : World) (hI : NodeIn w x) :
  Calls Tryz.prog 172 #[.agg #[.int .i64 lo, .int .i64 hi, .func (.func 200) #[] #[]], .agg (encN x).toArray] w fun e w' => e = .returned (.bool (fitsB lo hi setB noSet x)) ∧ Below w.heap.size w w' := by
 obtain ⟨P, hP⟩ : ∃ P : Nd → Bool, P = setB := ⟨_, rfl⟩
 obtain ⟨T, hT⟩ : ∃ T : NV → NV, T = noSet := ⟨_, rfl⟩
 have hf : HasOk 200 P T := by rw [hP, hT]; exact has_set
 rw [← hP, ← hT]
 clear hP hT
 obtain ⟨ls, lk, hls, hlk, h⟩ := node_lit2 x
 have HE : Hid (fitsB lo hi P T x = (decide (lo ≤ (lk : Int)) && (decide ((lk : Int) ≤ hi) && (P x.nd && bareB (T x).nd)))) := by show _ = _; rw [hlk]; rfl
 obtain ⟨W2, hW2⟩ : ∃ W, W = (w.alloc (.cells #[.int .i64 lo, .int .i64 hi, .func (.func 200) #[] #[]] 253)).alloc (.cells (encN x).toArray 28) := ⟨_, rfl⟩
 have hb2 : Below w.heap.size w W2 := by rw [hW2]; exact bl_trans (bl_alloc _ _) (bl_alloc _ _)
 have hs2 : W2.heap.size = w.heap.size + 1 + 1 := by rw [hW2]; simp
 have hX : NodeAt (W2.alloc (.cells (encN x).toArray 272)) (w.heap.size + 1 + 1) x := by
  have h := Bx.new W2 272 (encN x).toArray
  rw [hs2] at h; exact h
 have hb3 : Below w.heap.size w (W2.alloc (.cells (encN x).toArray 272)) := hb2.trans ((bl_alloc _ _).mono hb2.size)
 have HC := lh (hf (w.heap.size + 1 + 1) x _ hX (hI.below hb3) (fun g off hp hs => hI.ahead (by omega) g off hp hs))
 have HB2 := lh hb2
 have HB3 := lh hb3
 have HH := lh h
 unfold NodeLit at h
 rw [h] at hW2 HC HB3 ⊢
 clear h hls hlk hX hb2 hb3 hs2 hI hf
 rw [hW2] at HC HB3 HB2
 clear hW2
 by_cases h1 : (lk : Int) < lo
 ·have e1 : decide ((lk : Int) < lo) = true := by simpa using h1
  have HF : Hid (fitsB lo hi P T x = false) := by show _ = _; rw [HE.out]; simp; omega
  clear h1
  go_enter Tryz.func172, Tryz.ntmps172
  go_wp2
  go_ret
  exact ⟨by rw [HF.out]; rfl, HB2.out⟩
 ·have e1 : decide ((lk : Int) < lo) = false := by simpa using h1
  by_cases h2 : hi < (lk : Int)
  ·have e2 : decide (hi < (lk : Int)) = true := by simpa using h2
   have HF : Hid (fitsB lo hi P T x = false) := by show _ = _; rw [HE.out]; simp; omega
   clear h1 h2
   go_enter Tryz.func172, Tryz.ntmps172
   go_wp2
   go_ret
   exact ⟨by rw [HF.out]; rfl, HB2.out⟩
  ·have e2 : decide (hi < (lk : Int)) = false := by simpa using h2
   have HG : Hid (fitsB lo hi P T x = (P x.nd && bareB (T x).nd)) := by show _ = _; rw [HE.out, show decide (lo ≤ (lk : Int)) = true by simp; omega, show decide ((lk : Int) ≤ hi) = true by simp; omega]; rfl
   clear h1 h2
   obtain ⟨bb, hbb⟩ : ∃ b : Bool, b = P x.nd := ⟨_, rfl⟩
   rw [← hbb] at HC HG
   clear hbb
   have HSZ : Hid (w.heap.size ≤ w.heap.size + 1 + 1) := by show _ ≤ _; omega
   cases bb with
   | true =>
    go_enter Tryz.func172, Tryz.ntmps172
    go_wp2_with (first | (go_at_call 200; refine (HC.out).mono ?_; rintro e w5 ⟨rfl, h1, h2⟩; have HC2 := lh (bare_any _ _ _ (h1 rfl)); have HB5 := lh (HB3.out.trans (h2.mono HSZ.out)); clear HC HB3 HB2 h1 h2) | (go_at_call 199; refine (HC2.out).mono ?_; rintro e w' ⟨rfl, rfl⟩))
    go_ret
    exact ⟨by rw [HG.out]; rfl, HB5.out⟩
   | false =>
    go_enter Tryz.func172, Tryz.ntmps172
    go_wp2_with (go_at_call 200; refine (HC.out).mono ?_; rintro e w5 ⟨rfl, _, h2⟩; have HB5 := lh (HB3.out.trans (h2.mono HSZ.out)); clear HC HB3 HB2 h2)
    go_ret
    exact ⟨by rw [HG.out]; rfl, HB5.out⟩
theorem fits_group (lo hi : Int) (x : NV) (w : World) (hI : NodeIn w x) :
  Calls Tryz.prog 172 #[.agg #[.int .i64 lo, .int .i64 hi, .func (.func 201) #[] #[]], .agg (encN x).toArray] w fun e w' => e = .returned (.bool (fitsB lo hi (fun _ => true) noGroup x)) ∧ Below w.heap.size w w' := by
 obtain ⟨P, hP⟩ : ∃ P : Nd → Bool, P = (fun _ => true) := ⟨_, rfl⟩
 obtain ⟨T, hT⟩ : ∃ T : NV → NV, T = noGroup := ⟨_, rfl⟩
 have hf : HasOk 201 P T := by rw [hP, hT]; exact has_group
 rw [← hP, ← hT]
 clear hP hT
 obtain ⟨ls, lk, hls, hlk, h⟩ := node_lit2 x
 have HE : Hid (fitsB lo hi P T x = (decide (lo ≤ (lk : Int)) && (decide ((lk : Int) ≤ hi) && (P x.nd && bareB (T x).nd)))) := by show _ = _; rw [hlk]; rfl
 obtain ⟨W2, hW2⟩ : ∃ W, W = (w.alloc (.cells #[.int .i64 lo, .int .i64 hi, .func (.func 201) #[] #[]] 253)).alloc (.cells (encN x).toArray 28) := ⟨_, rfl⟩
 have hb2 : Below w.heap.size w W2 := by rw [hW2]; exact bl_trans (bl_alloc _ _) (bl_alloc _ _)
 have hs2 : W2.heap.size = w.heap.size + 1 + 1 := by rw [hW2]; simp
 have hX : NodeAt (W2.alloc (.cells (encN x).toArray 272)) (w.heap.size + 1 + 1) x := by
  have h := Bx.new W2 272 (encN x).toArray
  rw [hs2] at h; exact h
 have hb3 : Below w.heap.size w (W2.alloc (.cells (encN x).toArray 272)) := hb2.trans ((bl_alloc _ _).mono hb2.size)
 have HC := lh (hf (w.heap.size + 1 + 1) x _ hX (hI.below hb3) (fun g off hp hs => hI.ahead (by omega) g off hp hs))
 have HB2 := lh hb2
 have HB3 := lh hb3
 have HH := lh h
 unfold NodeLit at h
 rw [h] at hW2 HC HB3 ⊢
 clear h hls hlk hX hb2 hb3 hs2 hI hf
 rw [hW2] at HC HB3 HB2
 clear hW2
 by_cases h1 : (lk : Int) < lo
 ·have e1 : decide ((lk : Int) < lo) = true := by simpa using h1
  have HF : Hid (fitsB lo hi P T x = false) := by show _ = _; rw [HE.out]; simp; omega
  clear h1
  go_enter Tryz.func172, Tryz.ntmps172
  go_wp2
  go_ret
  exact ⟨by rw [HF.out]; rfl, HB2.out⟩
 ·have e1 : decide ((lk : Int) < lo) = false := by simpa using h1
  by_cases h2 : hi < (lk : Int)
  ·have e2 : decide (hi < (lk : Int)) = true := by simpa using h2
   have HF : Hid (fitsB lo hi P T x = false) := by show _ = _; rw [HE.out]; simp; omega
   clear h1 h2
   go_enter Tryz.func172, Tryz.ntmps172
   go_wp2
   go_ret
   exact ⟨by rw [HF.out]; rfl, HB2.out⟩
  ·have e2 : decide (hi < (lk : Int)) = false := by simpa using h2
   have HG : Hid (fitsB lo hi P T x = (P x.nd && bareB (T x).nd)) := by show _ = _; rw [HE.out, show decide (lo ≤ (lk : Int)) = true by simp; omega, show decide ((lk : Int) ≤ hi) = true by simp; omega]; rfl
   clear h1 h2
   obtain ⟨bb, hbb⟩ : ∃ b : Bool, b = P x.nd := ⟨_, rfl⟩
   rw [← hbb] at HC HG
   clear hbb
   have HSZ : Hid (w.heap.size ≤ w.heap.size + 1 + 1) := by show _ ≤ _; omega
   cases bb with
   | true =>
    go_enter Tryz.func172, Tryz.ntmps172
    go_wp2_with (first | (go_at_call 201; refine (HC.out).mono ?_; rintro e w5 ⟨rfl, h1, h2⟩; have HC2 := lh (bare_any _ _ _ (h1 rfl)); have HB5 := lh (HB3.out.trans (h2.mono HSZ.out)); clear HC HB3 HB2 h1 h2) | (go_at_call 199; refine (HC2.out).mono ?_; rintro e w' ⟨rfl, rfl⟩))
    go_ret
    exact ⟨by rw [HG.out]; rfl, HB5.out⟩
   | false =>
    go_enter Tryz.func172, Tryz.ntmps172
    go_wp2_with (go_at_call 201; refine (HC.out).mono ?_; rintro e w5 ⟨rfl, _, h2⟩; have HB5 := lh (HB3.out.trans (h2.mono HSZ.out)); clear HC HB3 HB2 h2)
    go_ret
    exact ⟨by rw [HG.out]; rfl, HB5.out⟩
theorem fits_not (lo hi : Int) (x : NV) (w : World) (hI : NodeIn w x) :
  Calls Tryz.prog 172 #[.agg #[.int .i64 lo, .int .i64 hi, .func (.func 204) #[] #[]], .agg (encN x).toArray] w fun e w' => e = .returned (.bool (fitsB lo hi (fun _ => true) noNot x)) ∧ Below w.heap.size w w' := by
 obtain ⟨P, hP⟩ : ∃ P : Nd → Bool, P = (fun _ => true) := ⟨_, rfl⟩
 obtain ⟨T, hT⟩ : ∃ T : NV → NV, T = noNot := ⟨_, rfl⟩
 have hf : HasOk 204 P T := by rw [hP, hT]; exact has_not
 rw [← hP, ← hT]
 clear hP hT
 obtain ⟨ls, lk, hls, hlk, h⟩ := node_lit2 x
 have HE : Hid (fitsB lo hi P T x = (decide (lo ≤ (lk : Int)) && (decide ((lk : Int) ≤ hi) && (P x.nd && bareB (T x).nd)))) := by show _ = _; rw [hlk]; rfl
 obtain ⟨W2, hW2⟩ : ∃ W, W = (w.alloc (.cells #[.int .i64 lo, .int .i64 hi, .func (.func 204) #[] #[]] 253)).alloc (.cells (encN x).toArray 28) := ⟨_, rfl⟩
 have hb2 : Below w.heap.size w W2 := by rw [hW2]; exact bl_trans (bl_alloc _ _) (bl_alloc _ _)
 have hs2 : W2.heap.size = w.heap.size + 1 + 1 := by rw [hW2]; simp
 have hX : NodeAt (W2.alloc (.cells (encN x).toArray 272)) (w.heap.size + 1 + 1) x := by
  have h := Bx.new W2 272 (encN x).toArray
  rw [hs2] at h; exact h
 have hb3 : Below w.heap.size w (W2.alloc (.cells (encN x).toArray 272)) := hb2.trans ((bl_alloc _ _).mono hb2.size)
 have HC := lh (hf (w.heap.size + 1 + 1) x _ hX (hI.below hb3) (fun g off hp hs => hI.ahead (by omega) g off hp hs))
 have HB2 := lh hb2
 have HB3 := lh hb3
 have HH := lh h
 unfold NodeLit at h
 rw [h] at hW2 HC HB3 ⊢
 clear h hls hlk hX hb2 hb3 hs2 hI hf
 rw [hW2] at HC HB3 HB2
 clear hW2
 by_cases h1 : (lk : Int) < lo
 ·have e1 : decide ((lk : Int) < lo) = true := by simpa using h1
  have HF : Hid (fitsB lo hi P T x = false) := by show _ = _; rw [HE.out]; simp; omega
  clear h1
  go_enter Tryz.func172, Tryz.ntmps172
  go_wp2
  go_ret
  exact ⟨by rw [HF.out]; rfl, HB2.out⟩
 ·have e1 : decide ((lk : Int) < lo) = false := by simpa using h1
  by_cases h2 : hi < (lk : Int)
  ·have e2 : decide (hi < (lk : Int)) = true := by simpa using h2
   have HF : Hid (fitsB lo hi P T x = false) := by show _ = _; rw [HE.out]; simp; omega
   clear h1 h2
   go_enter Tryz.func172, Tryz.ntmps172
   go_wp2
   go_ret
   exact ⟨by rw [HF.out]; rfl, HB2.out⟩
  ·have e2 : decide (hi < (lk : Int)) = false := by simpa using h2
   have HG : Hid (fitsB lo hi P T x = (P x.nd && bareB (T x).nd)) := by show _ = _; rw [HE.out, show decide (lo ≤ (lk : Int)) = true by simp; omega, show decide ((lk : Int) ≤ hi) = true by simp; omega]; rfl
   clear h1 h2
   obtain ⟨bb, hbb⟩ : ∃ b : Bool, b = P x.nd := ⟨_, rfl⟩
   rw [← hbb] at HC HG
   clear hbb
   have HSZ : Hid (w.heap.size ≤ w.heap.size + 1 + 1) := by show _ ≤ _; omega
   cases bb with
   | true =>
    go_enter Tryz.func172, Tryz.ntmps172
    go_wp2_with (first | (go_at_call 204; refine (HC.out).mono ?_; rintro e w5 ⟨rfl, h1, h2⟩; have HC2 := lh (bare_any _ _ _ (h1 rfl)); have HB5 := lh (HB3.out.trans (h2.mono HSZ.out)); clear HC HB3 HB2 h1 h2) | (go_at_call 199; refine (HC2.out).mono ?_; rintro e w' ⟨rfl, rfl⟩))
    go_ret
    exact ⟨by rw [HG.out]; rfl, HB5.out⟩
   | false =>
    go_enter Tryz.func172, Tryz.ntmps172
    go_wp2_with (go_at_call 204; refine (HC.out).mono ?_; rintro e w5 ⟨rfl, _, h2⟩; have HB5 := lh (HB3.out.trans (h2.mono HSZ.out)); clear HC HB3 HB2 h2)
    go_ret
    exact ⟨by rw [HG.out]; rfl, HB5.out⟩
theorem fits_spot (lo hi : Int) (x : NV) (w : World) (hI : NodeIn w x) :
  Calls Tryz.prog 172 #[.agg #[.int .i64 lo, .int .i64 hi, .func (.func 203) #[] #[]], .agg (encN x).toArray] w fun e w' => e = .returned (.bool (fitsB lo hi spotB noSpot x)) ∧ Below w.heap.size w w' := by
 obtain ⟨P, hP⟩ : ∃ P : Nd → Bool, P = spotB := ⟨_, rfl⟩
 obtain ⟨T, hT⟩ : ∃ T : NV → NV, T = noSpot := ⟨_, rfl⟩
 have hf : HasOk 203 P T := by rw [hP, hT]; exact has_spot
 rw [← hP, ← hT]
 clear hP hT
 obtain ⟨ls, lk, hls, hlk, h⟩ := node_lit2 x
 have HE : Hid (fitsB lo hi P T x = (decide (lo ≤ (lk : Int)) && (decide ((lk : Int) ≤ hi) && (P x.nd && bareB (T x).nd)))) := by show _ = _; rw [hlk]; rfl
 obtain ⟨W2, hW2⟩ : ∃ W, W = (w.alloc (.cells #[.int .i64 lo, .int .i64 hi, .func (.func 203) #[] #[]] 253)).alloc (.cells (encN x).toArray 28) := ⟨_, rfl⟩
 have hb2 : Below w.heap.size w W2 := by rw [hW2]; exact bl_trans (bl_alloc _ _) (bl_alloc _ _)
 have hs2 : W2.heap.size = w.heap.size + 1 + 1 := by rw [hW2]; simp
 have hX : NodeAt (W2.alloc (.cells (encN x).toArray 272)) (w.heap.size + 1 + 1) x := by
  have h := Bx.new W2 272 (encN x).toArray
  rw [hs2] at h; exact h
 have hb3 : Below w.heap.size w (W2.alloc (.cells (encN x).toArray 272)) := hb2.trans ((bl_alloc _ _).mono hb2.size)
 have HC := lh (hf (w.heap.size + 1 + 1) x _ hX (hI.below hb3) (fun g off hp hs => hI.ahead (by omega) g off hp hs))
 have HB2 := lh hb2
 have HB3 := lh hb3
 have HH := lh h
 unfold NodeLit at h
 rw [h] at hW2 HC HB3 ⊢
 clear h hls hlk hX hb2 hb3 hs2 hI hf
 rw [hW2] at HC HB3 HB2
 clear hW2
 by_cases h1 : (lk : Int) < lo
 ·have e1 : decide ((lk : Int) < lo) = true := by simpa using h1
  have HF : Hid (fitsB lo hi P T x = false) := by show _ = _; rw [HE.out]; simp; omega
  clear h1
  go_enter Tryz.func172, Tryz.ntmps172
  go_wp2
  go_ret
  exact ⟨by rw [HF.out]; rfl, HB2.out⟩
 ·have e1 : decide ((lk : Int) < lo) = false := by simpa using h1
  by_cases h2 : hi < (lk : Int)
  ·have e2 : decide (hi < (lk : Int)) = true := by simpa using h2
   have HF : Hid (fitsB lo hi P T x = false) := by show _ = _; rw [HE.out]; simp; omega
   clear h1 h2
   go_enter Tryz.func172, Tryz.ntmps172
   go_wp2
   go_ret
   exact ⟨by rw [HF.out]; rfl, HB2.out⟩
  ·have e2 : decide (hi < (lk : Int)) = false := by simpa using h2
   have HG : Hid (fitsB lo hi P T x = (P x.nd && bareB (T x).nd)) := by show _ = _; rw [HE.out, show decide (lo ≤ (lk : Int)) = true by simp; omega, show decide ((lk : Int) ≤ hi) = true by simp; omega]; rfl
   clear h1 h2
   obtain ⟨bb, hbb⟩ : ∃ b : Bool, b = P x.nd := ⟨_, rfl⟩
   rw [← hbb] at HC HG
   clear hbb
   have HSZ : Hid (w.heap.size ≤ w.heap.size + 1 + 1) := by show _ ≤ _; omega
   cases bb with
   | true =>
    go_enter Tryz.func172, Tryz.ntmps172
    go_wp2_with (first | (go_at_call 203; refine (HC.out).mono ?_; rintro e w5 ⟨rfl, h1, h2⟩; have HC2 := lh (bare_any _ _ _ (h1 rfl)); have HB5 := lh (HB3.out.trans (h2.mono HSZ.out)); clear HC HB3 HB2 h1 h2) | (go_at_call 199; refine (HC2.out).mono ?_; rintro e w' ⟨rfl, rfl⟩))
    go_ret
    exact ⟨by rw [HG.out]; rfl, HB5.out⟩
   | false =>
    go_enter Tryz.func172, Tryz.ntmps172
    go_wp2_with (go_at_call 203; refine (HC.out).mono ?_; rintro e w5 ⟨rfl, _, h2⟩; have HB5 := lh (HB3.out.trans (h2.mono HSZ.out)); clear HC HB3 HB2 h2)
    go_ret
    exact ⟨by rw [HG.out]; rfl, HB5.out⟩
theorem fits_try (lo hi : Int) (x : NV) (w : World) (hI : NodeIn w x) :
  Calls Tryz.prog 172 #[.agg #[.int .i64 lo, .int .i64 hi, .func (.func 205) #[] #[]], .agg (encN x).toArray] w fun e w' => e = .returned (.bool (fitsB lo hi tryB noMode x)) ∧ Below w.heap.size w w' := by
 obtain ⟨P, hP⟩ : ∃ P : Nd → Bool, P = tryB := ⟨_, rfl⟩
 obtain ⟨T, hT⟩ : ∃ T : NV → NV, T = noMode := ⟨_, rfl⟩
 have hf : HasOk 205 P T := by rw [hP, hT]; exact has_try
 rw [← hP, ← hT]
 clear hP hT
 obtain ⟨ls, lk, hls, hlk, h⟩ := node_lit2 x
 have HE : Hid (fitsB lo hi P T x = (decide (lo ≤ (lk : Int)) && (decide ((lk : Int) ≤ hi) && (P x.nd && bareB (T x).nd)))) := by show _ = _; rw [hlk]; rfl
 obtain ⟨W2, hW2⟩ : ∃ W, W = (w.alloc (.cells #[.int .i64 lo, .int .i64 hi, .func (.func 205) #[] #[]] 253)).alloc (.cells (encN x).toArray 28) := ⟨_, rfl⟩
 have hb2 : Below w.heap.size w W2 := by rw [hW2]; exact bl_trans (bl_alloc _ _) (bl_alloc _ _)
 have hs2 : W2.heap.size = w.heap.size + 1 + 1 := by rw [hW2]; simp
 have hX : NodeAt (W2.alloc (.cells (encN x).toArray 272)) (w.heap.size + 1 + 1) x := by
  have h := Bx.new W2 272 (encN x).toArray
  rw [hs2] at h; exact h
 have hb3 : Below w.heap.size w (W2.alloc (.cells (encN x).toArray 272)) := hb2.trans ((bl_alloc _ _).mono hb2.size)
 have HC := lh (hf (w.heap.size + 1 + 1) x _ hX (hI.below hb3) (fun g off hp hs => hI.ahead (by omega) g off hp hs))
 have HB2 := lh hb2
 have HB3 := lh hb3
 have HH := lh h
 unfold NodeLit at h
 rw [h] at hW2 HC HB3 ⊢
 clear h hls hlk hX hb2 hb3 hs2 hI hf
 rw [hW2] at HC HB3 HB2
 clear hW2
 by_cases h1 : (lk : Int) < lo
 ·have e1 : decide ((lk : Int) < lo) = true := by simpa using h1
  have HF : Hid (fitsB lo hi P T x = false) := by show _ = _; rw [HE.out]; simp; omega
  clear h1
  go_enter Tryz.func172, Tryz.ntmps172
  go_wp2
  go_ret
  exact ⟨by rw [HF.out]; rfl, HB2.out⟩
 ·have e1 : decide ((lk : Int) < lo) = false := by simpa using h1
  by_cases h2 : hi < (lk : Int)
  ·have e2 : decide (hi < (lk : Int)) = true := by simpa using h2
   have HF : Hid (fitsB lo hi P T x = false) := by show _ = _; rw [HE.out]; simp; omega
   clear h1 h2
   go_enter Tryz.func172, Tryz.ntmps172
   go_wp2
   go_ret
   exact ⟨by rw [HF.out]; rfl, HB2.out⟩
  ·have e2 : decide (hi < (lk : Int)) = false := by simpa using h2
   have HG : Hid (fitsB lo hi P T x = (P x.nd && bareB (T x).nd)) := by show _ = _; rw [HE.out, show decide (lo ≤ (lk : Int)) = true by simp; omega, show decide ((lk : Int) ≤ hi) = true by simp; omega]; rfl
   clear h1 h2
   obtain ⟨bb, hbb⟩ : ∃ b : Bool, b = P x.nd := ⟨_, rfl⟩
   rw [← hbb] at HC HG
   clear hbb
   have HSZ : Hid (w.heap.size ≤ w.heap.size + 1 + 1) := by show _ ≤ _; omega
   cases bb with
   | true =>
    go_enter Tryz.func172, Tryz.ntmps172
    go_wp2_with (first | (go_at_call 205; refine (HC.out).mono ?_; rintro e w5 ⟨rfl, h1, h2⟩; have HC2 := lh (bare_any _ _ _ (h1 rfl)); have HB5 := lh (HB3.out.trans (h2.mono HSZ.out)); clear HC HB3 HB2 h1 h2) | (go_at_call 199; refine (HC2.out).mono ?_; rintro e w' ⟨rfl, rfl⟩))
    go_ret
    exact ⟨by rw [HG.out]; rfl, HB5.out⟩
   | false =>
    go_enter Tryz.func172, Tryz.ntmps172
    go_wp2_with (go_at_call 205; refine (HC.out).mono ?_; rintro e w5 ⟨rfl, _, h2⟩; have HB5 := lh (HB3.out.trans (h2.mono HSZ.out)); clear HC HB3 HB2 h2)
    go_ret
    exact ⟨by rw [HG.out]; rfl, HB5.out⟩
theorem fits_repeat (lo hi : Int) (x : NV) (w : World) (hI : NodeIn w x) :
  Calls Tryz.prog 172 #[.agg #[.int .i64 lo, .int .i64 hi, .func (.func 202) #[] #[]], .agg (encN x).toArray] w fun e w' => e = .returned (.bool (fitsB lo hi repeatB noTimes x)) ∧ Below w.heap.size w w' := by
 obtain ⟨P, hP⟩ : ∃ P : Nd → Bool, P = repeatB := ⟨_, rfl⟩
 obtain ⟨T, hT⟩ : ∃ T : NV → NV, T = noTimes := ⟨_, rfl⟩
 have hf : HasOk 202 P T := by rw [hP, hT]; exact has_repeat
 rw [← hP, ← hT]
 clear hP hT
 obtain ⟨ls, lk, hls, hlk, h⟩ := node_lit2 x
 have HE : Hid (fitsB lo hi P T x = (decide (lo ≤ (lk : Int)) && (decide ((lk : Int) ≤ hi) && (P x.nd && bareB (T x).nd)))) := by show _ = _; rw [hlk]; rfl
 obtain ⟨W2, hW2⟩ : ∃ W, W = (w.alloc (.cells #[.int .i64 lo, .int .i64 hi, .func (.func 202) #[] #[]] 253)).alloc (.cells (encN x).toArray 28) := ⟨_, rfl⟩
 have hb2 : Below w.heap.size w W2 := by rw [hW2]; exact bl_trans (bl_alloc _ _) (bl_alloc _ _)
 have hs2 : W2.heap.size = w.heap.size + 1 + 1 := by rw [hW2]; simp
 have hX : NodeAt (W2.alloc (.cells (encN x).toArray 272)) (w.heap.size + 1 + 1) x := by
  have h := Bx.new W2 272 (encN x).toArray
  rw [hs2] at h; exact h
 have hb3 : Below w.heap.size w (W2.alloc (.cells (encN x).toArray 272)) := hb2.trans ((bl_alloc _ _).mono hb2.size)
 have HC := lh (hf (w.heap.size + 1 + 1) x _ hX (hI.below hb3) (fun g off hp hs => hI.ahead (by omega) g off hp hs))
 have HB2 := lh hb2
 have HB3 := lh hb3
 have HH := lh h
 unfold NodeLit at h
 rw [h] at hW2 HC HB3 ⊢
 clear h hls hlk hX hb2 hb3 hs2 hI hf
 rw [hW2] at HC HB3 HB2
 clear hW2
 by_cases h1 : (lk : Int) < lo
 ·have e1 : decide ((lk : Int) < lo) = true := by simpa using h1
  have HF : Hid (fitsB lo hi P T x = false) := by show _ = _; rw [HE.out]; simp; omega
  clear h1
  go_enter Tryz.func172, Tryz.ntmps172
  go_wp2
  go_ret
  exact ⟨by rw [HF.out]; rfl, HB2.out⟩
 ·have e1 : decide ((lk : Int) < lo) = false := by simpa using h1
  by_cases h2 : hi < (lk : Int)
  ·have e2 : decide (hi < (lk : Int)) = true := by simpa using h2
   have HF : Hid (fitsB lo hi P T x = false) := by show _ = _; rw [HE.out]; simp; omega
   clear h1 h2
   go_enter Tryz.func172, Tryz.ntmps172
   go_wp2
   go_ret
   exact ⟨by rw [HF.out]; rfl, HB2.out⟩
  ·have e2 : decide (hi < (lk : Int)) = false := by simpa using h2
   have HG : Hid (fitsB lo hi P T x = (P x.nd && bareB (T x).nd)) := by show _ = _; rw [HE.out, show decide (lo ≤ (lk : Int)) = true by simp; omega, show decide ((lk : Int) ≤ hi) = true by simp; omega]; rfl
   clear h1 h2
   obtain ⟨bb, hbb⟩ : ∃ b : Bool, b = P x.nd := ⟨_, rfl⟩
   rw [← hbb] at HC HG
   clear hbb
   have HSZ : Hid (w.heap.size ≤ w.heap.size + 1 + 1) := by show _ ≤ _; omega
   cases bb with
   | true =>
    go_enter Tryz.func172, Tryz.ntmps172
    go_wp2_with (first | (go_at_call 202; refine (HC.out).mono ?_; rintro e w5 ⟨rfl, h1, h2⟩; have HC2 := lh (bare_any _ _ _ (h1 rfl)); have HB5 := lh (HB3.out.trans (h2.mono HSZ.out)); clear HC HB3 HB2 h1 h2) | (go_at_call 199; refine (HC2.out).mono ?_; rintro e w' ⟨rfl, rfl⟩))
    go_ret
    exact ⟨by rw [HG.out]; rfl, HB5.out⟩
   | false =>
    go_enter Tryz.func172, Tryz.ntmps172
    go_wp2_with (go_at_call 202; refine (HC.out).mono ?_; rintro e w5 ⟨rfl, _, h2⟩; have HB5 := lh (HB3.out.trans (h2.mono HSZ.out)); clear HC HB3 HB2 h2)
    go_ret
    exact ⟨by rw [HG.out]; rfl, HB5.out⟩
theorem fits_nil (lo hi : Int) (x : NV) (w : World) :
  Calls Tryz.prog 172 #[.agg #[.int .i64 lo, .int .i64 hi, Value.nilFunc], .agg (encN x).toArray] w fun e w' => e = .returned (.bool false) ∧ Below w.heap.size w w' := by
 obtain ⟨ls, lk, hls, hlk, h⟩ := node_lit2 x
 unfold NodeLit at h
 rw [h]
 have HB : Hid (Below w.heap.size w ((w.alloc (.cells #[.int .i64 lo, .int .i64 hi, Value.nilFunc] 253)).alloc (.cells #[.int .u8 x.nd.kind, .slice x.ps ls x.cs, .slice x.pk lk x.ck, .int .i64 x.nd.group, .int .i64 x.nd.mn, .int .i64 x.nd.mx, .int .u8 x.nd.mode, .int .u8 x.nd.spot, .bool x.nd.neg] 28))) := bl_trans (bl_alloc _ _) (bl_alloc _ _)
 clear h hls hlk
 go_enter Tryz.func172, Tryz.ntmps172
 go_wp2
 go_ret
 exact ⟨rfl, HB.out⟩
end Go.Proofs.YtkefndfgkmdphaaGreat
