import Derived.Test.YtkefndfgkmdphaaGreatFjs

namespace Go.Proofs.YtkefndfgkmdphaaGreat
set_option maxHeartbeats 6400000
set_option maxRecDepth 100000
open Go.RowKit Tnr Tnt

def tj3o0 : Oper := ⟨some 22, Op.move (.tmp 1), 29, "law.go:58", #[], none⟩
def tj3o1 : Oper := ⟨some 23, Op.call { callee := Callee.value (.func 7), args := #[.tmp 22], argTypes := #[29] }, 29, "law.go:58", #[⟨0, .data⟩], none⟩
def tj3o2 : Oper := ⟨some 24, Op.load 28 (.tmp 3), 28, "law.go:58", #[], none⟩
def tj3o3 : Oper := ⟨some 25, Op.call ⟨.value (.func 8), #[.tmp 24], #[28]⟩, 28, "law.go:58", #[⟨2, .data⟩, ⟨1, .chain⟩], none⟩
def tj3o4 : Oper := ⟨some 8, Op.alloc 28, 0, "law.go:58", #[], none⟩
def tj3o5 : Oper := ⟨some 7, Op.assign (.tmp 23), 29, "law.go:58", #[⟨1, .data⟩, ⟨3, .chain⟩, ⟨0, .phase⟩, ⟨1, .phase⟩, ⟨2, .textOnly .lateStores⟩, ⟨3, .textOnly .lateStoresUnsure⟩, ⟨4, .phase⟩], none⟩
def tj3o6 : Oper := ⟨none, Op.store 28 (.tmp 8) (.tmp 25), 0, "law.go:58", #[⟨4, .data⟩, ⟨3, .data⟩, ⟨5, .chain⟩, ⟨0, .phase⟩, ⟨1, .phase⟩, ⟨2, .phase⟩, ⟨3, .phase⟩, ⟨4, .phase⟩, ⟨5, .phase⟩], none⟩
def tj3Ops : Array Oper := #[tj3o0, tj3o1, tj3o2, tj3o3, tj3o4, tj3o5, tj3o6]
def tj3Pre : Array Bool := #[true, true, true, true, true, false, false]
def tj3K (p : Option Addr) (n c _b3 zw Bz : Nat) (ts : List TV) (nms : Nat → List ByteArray) (xn : NV) (x0 x1 x2 x3 x4 x5 x6 x7 x8 : Value) : Nat → Kc
 | 0 => Kc.val (.slice p n c)
 | 1 => Kc.lts Bz n ts nms
 | 2 => Kc.val (.agg #[x0, x1, x2, x3, x4, x5, x6, x7, x8])
 | 3 => Kc.lentN Bz xn
 | 4 => Kc.box zw 28 #[.int .u8 0, .slice none 0 0, .slice none 0 0, .int .i64 0, .int .i64 0, .int .i64 0, .int .u8 0, .int .u8 0, .bool false]
 | _ => Kc.val undef
theorem tj3_slots (f : Nat → Value) : slotsOf tj3Ops tj3Pre f = [(22, f 0), (23, f 1), (24, f 2), (25, f 3), (8, f 4)] := by kernel_rfl
theorem tj3_wp {Q : Exit → Act → World → Prop} {a0 : Act} {w : World} (p : Option Addr) (n c b3 zw Bz : Nat) (ts : List TV) (nms : Nat → List ByteArray) (xn : NV) (x0 x1 x2 x3 x4 x5 x6 x7 x8 : Value) (hsize : a0.tmps.size = 109) (h1 : a0.tmps[1]? = some (.slice p n c)) (h3 : a0.tmps[3]? = some (.pointer (some ⟨b3, 0, none⟩))) (hzw : zw = w.drew.heap.size) (hbx : Bx w.drew b3 28 #[x0, x1, x2, x3, x4, x5, x6, x7, x8])
  (hlts : ∀ V, Below w.drew.heap.size w.drew V → Calls Tryz.prog 7 #[.slice p n c] V fun e w' => ∃ (g cap : Nat) (us : List TV), e = .returned (.slice (some ⟨g, 0, none⟩) n cap) ∧ us.length = n + 12 ∧ n + 12 ≤ cap ∧ cap ≤ 9223372036854775807 ∧ RQ w' Bz n ts nms (.slice (some ⟨g, 0, none⟩) (n + 12) cap) us ∧ Below V.heap.size V w')
  (hln : ∀ V, Below w.drew.heap.size w.drew V → Calls Tryz.prog 8 #[.agg #[x0, x1, x2, x3, x4, x5, x6, x7, x8]] V fun e w' => ∃ yn : NV, e = .returned (.agg (encN yn).toArray) ∧ LentN w' Bz xn yn ∧ Below V.heap.size V w')
  (fin : ∀ (f : Nat → Value) (y : World), (∀ j, j < 7 → tj3Pre.getD j false = true → (tj3K p n c b3 zw Bz ts nms xn x0 x1 x2 x3 x4 x5 x6 x7 x8 j).P (f j) y) → Below w.drew.heap.size w.drew y → wpAny Tryz.prog .any tj3Ops Q 2 tj3Pre (putL a0 [(22, f 0), (23, f 1), (24, f 2), (25, f 3), (8, f 4)]) y) (id : Nat) :
  (Code.region id tj3Ops true).wp Tryz.prog Q a0 w := by
 refine wp_region_inv tj3Pre (fun j => (tj3K p n c b3 zw Bz ts nms xn x0 x1 x2 x3 x4 x5 x6 x7 x8 j).P) (fun x y => Below x.heap.size x y) 5 2 (by kernel_rfl) (by kernel_rfl) (by rw [hsize]; kernel_rfl) (by kernel_rfl) (by kernel_rfl) (Below.refl _ _) (fun _ _ _ h1 h2 => bl_trans h1 h2) (fun j _ _ _ h1 h2 => (tj3K p n c b3 zw Bz ts nms xn x0 x1 x2 x3 x4 x5 x6 x7 x8 j).keep h1 h2) ?_ (fun f y h1 h2 => by rw [tj3_slots]; exact fin f y h1 h2)
 intro i o ho hp f a x hR hbase hdeps K hK
 have hi : i < 7 := by
  rcases Nat.lt_or_ge i 7 with h | h
  ·exact h
  ·have : tj3Ops.size ≤ i := h
   rw [Array.getElem?_eq_none this] at ho; cases ho
 have dep : ∀ j, (o.after.any fun e => Region.binds .any e && e.on == j) = true → (∀ s, slotOf tj3Ops j = some s → a.tmps[s]? = some (f j)) ∧ (tj3K p n c b3 zw Bz ts nms xn x0 x1 x2 x3 x4 x5 x6 x7 x8 j).P (f j) x := by
  intro j h
  obtain ⟨e, he, h2⟩ := Array.any_eq_true'.1 h
  simp only [Bool.and_eq_true, beq_iff_eq] at h2
  obtain ⟨h3, rfl⟩ := h2
  exact hdeps e he h3
 have dv : ∀ (j s : Nat) {v : Value}, (o.after.any fun e => Region.binds .any e && e.on == j) = true → slotOf tj3Ops j = some s → tj3K p n c b3 zw Bz ts nms xn x0 x1 x2 x3 x4 x5 x6 x7 x8 j = Kc.val v → a.tmps[s]? = some v := fun j s v h1 h2 h3 => by
  obtain ⟨t, g⟩ := dep j h1
  rw [h3] at g
  have e : f j = v := g
  rw [← e]; exact t s h2
 have bv : ∀ {s : Nat} {v : Value}, a0.tmps[s]? = some v → ((List.range tj3Ops.size).all fun j => slotOf tj3Ops j != some s) = true → a.tmps[s]? = some v := by
  intro s v h0 h
  rw [hbase s fun j hj _ e => ?_]; exact h0
  have h2 := (List.all_eq_true.1 h) j (List.mem_range.2 hj)
  rw [e] at h2; simp at h2
 match i, hi with
 | 0, _ =>
  cases opat (o' := tj3o0) ho rfl
  have eb1 := eval_at (bv h1 (by kernel_rfl))
  exact inv_stay hK rfl (by simp only [execOp, tj3o0, eb1]; go_simp) (wanted_none rfl)
 | 1, _ =>
  cases opat (o' := tj3o1) ho rfl
  have q0 := dv 0 22 (by kernel_rfl) rfl rfl
  refine inv_enter 7 #[.slice p n c] hK (by simp [go_sem, tj3o1, q0]) (wanted_none rfl) ?_
  refine (hlts x hR).mono ?_
  rintro e y ⟨g, cap, us, rfl, h1, h2, h3, h4, hb⟩
  exact ⟨_, rfl, ⟨g, cap, us, rfl, h1, h2, h3, h4⟩, hb⟩
 | 2, _ =>
  cases opat (o' := tj3o2) ho rfl
  have eb3 := eval_at (bv h3 (by kernel_rfl))
  obtain ⟨kn0, kn1, kn2, kn3, kn4, kn5, kn6, kn7, kn8⟩ := nine (hbx.below hR)
  exact inv_stay hK rfl (by simp only [execOp, tj3o2, eb3]; go_simp) (wanted_none rfl)
 | 3, _ =>
  cases opat (o' := tj3o3) ho rfl
  have q2 := dv 2 24 (by kernel_rfl) rfl rfl
  refine inv_enter 8 #[.agg #[x0, x1, x2, x3, x4, x5, x6, x7, x8]] hK (by simp [go_sem, tj3o3, q2]) (wanted_none rfl) ?_
  refine (hln x hR).mono ?_
  rintro e y ⟨yn, rfl, h1, hb⟩
  exact ⟨_, rfl, ⟨yn, rfl, h1⟩, hb⟩
 | 4, _ =>
  cases opat (o' := tj3o4) ho rfl
  refine inv_val (G := (tj3K p n c b3 zw Bz ts nms xn x0 x1 x2 x3 x4 x5 x6 x7 x8 4).P) (R := fun x y => Below x.heap.size x y) (wanted_none rfl) (v := .pointer (some ⟨x.heap.size, 0, none⟩)) (w2 := x.alloc (.cells #[.int .u8 0, .slice none 0 0, .slice none 0 0, .int .i64 0, .int .i64 0, .int .i64 0, .int .u8 0, .int .u8 0, .bool false] 28)) (by simp only [execOp, tj3o4]; go_simp) hK ⟨_, rfl, (hzw ▸ hR.size), Bx.new _ _ _⟩ (bl_alloc _ _)
 | 5, _ => exact absurd (show tj3Pre.getD 5 false = true from hp) (by decide)
 | 6, _ => exact absurd (show tj3Pre.getD 6 false = true from hp) (by decide)
theorem tj3_all {Q : Exit → Act → World → Prop} {a0 : Act} {w : World} (p : Option Addr) (n c b3 zw Bz : Nat) (ts : List TV) (nms : Nat → List ByteArray) (xn : NV) (x0 x1 x2 x3 x4 x5 x6 x7 x8 : Value) (hsize : a0.tmps.size = 109) (h1 : a0.tmps[1]? = some (.slice p n c)) (h3 : a0.tmps[3]? = some (.pointer (some ⟨b3, 0, none⟩))) (hzw : zw = w.drew.heap.size) (hbx : Bx w.drew b3 28 #[x0, x1, x2, x3, x4, x5, x6, x7, x8])
  (hlts : ∀ V, Below w.drew.heap.size w.drew V → Calls Tryz.prog 7 #[.slice p n c] V fun e w' => ∃ (g cap : Nat) (us : List TV), e = .returned (.slice (some ⟨g, 0, none⟩) n cap) ∧ us.length = n + 12 ∧ n + 12 ≤ cap ∧ cap ≤ 9223372036854775807 ∧ RQ w' Bz n ts nms (.slice (some ⟨g, 0, none⟩) (n + 12) cap) us ∧ Below V.heap.size V w')
  (hln : ∀ V, Below w.drew.heap.size w.drew V → Calls Tryz.prog 8 #[.agg #[x0, x1, x2, x3, x4, x5, x6, x7, x8]] V fun e w' => ∃ yn : NV, e = .returned (.agg (encN yn).toArray) ∧ LentN w' Bz xn yn ∧ Below V.heap.size V w')
  (fin : ∀ (g cap b : Nat) (us : List TV) (yn : NV) (u0 u1 u2 u3 u4 u5 u6 u7 u8 : Value) (y : World), #[u0, u1, u2, u3, u4, u5, u6, u7, u8] = (encN yn).toArray → JI y Bz n g cap ts us nms xn yn → zw ≤ b → Below w.drew.heap.size w.drew y → Bx y b 28 #[u0, u1, u2, u3, u4, u5, u6, u7, u8] → Q .normal ((putL a0 [(22, .slice p n c), (23, .slice (some ⟨g, 0, none⟩) n cap), (24, .agg #[x0, x1, x2, x3, x4, x5, x6, x7, x8]), (25, .agg #[u0, u1, u2, u3, u4, u5, u6, u7, u8]), (8, .pointer (some ⟨b, 0, none⟩))]).put (some 7) (.slice (some ⟨g, 0, none⟩) n cap)) y) (id : Nat) :
  (Code.region id tj3Ops true).wp Tryz.prog Q a0 w := by
 refine tj3_wp p n c b3 zw Bz ts nms xn x0 x1 x2 x3 x4 x5 x6 x7 x8 hsize h1 h3 hzw hbx hlts hln ?_ id
 intro f y hk hb
 obtain ⟨b, hp, hzb, hbz⟩ : (Kc.box zw 28 #[.int .u8 0, .slice none 0 0, .slice none 0 0, .int .i64 0, .int .i64 0, .int .i64 0, .int .u8 0, .int .u8 0, .bool false]).P (f 4) y := hk 4 (by decide) (by decide)
 obtain ⟨g, cap, us, hv1, j1, j2, j3, j4⟩ : (Kc.lts Bz n ts nms).P (f 1) y := hk 1 (by decide) (by decide)
 obtain ⟨yn, hv3, j5⟩ : (Kc.lentN Bz xn).P (f 3) y := hk 3 (by decide) (by decide)
 have e0 : f 0 = .slice p n c := hk 0 (by decide) (by decide)
 have e2 : f 2 = .agg #[x0, x1, x2, x3, x4, x5, x6, x7, x8] := hk 2 (by decide) (by decide)
 have hji : JI y Bz n g cap ts us nms xn yn := ⟨j1, j2, j3, j4, j5⟩
 obtain ⟨kd, ps, ls, cs, pk, lk, ck, gr, mn, mx, md, sp, ng, hlit⟩ : ∃ kd ps ls cs pk lk ck gr mn mx md sp ng, (encN yn).toArray = #[.int .u8 kd, .slice ps ls cs, .slice pk lk ck, .int .i64 gr, .int .i64 mn, .int .i64 mx, .int .u8 md, .int .u8 sp, .bool ng] := ⟨_, _, _, _, _, _, _, _, _, _, _, _, _, rfl⟩
 rw [hlit] at hv3
 rw [hp, hv1, hv3, e0, e2]
 clear hk e0 e2 hv1 hv3 hp hlts hln hbx
 have get : ∀ s v, (s, v) ∈ [(22, .slice p n c), (23, .slice (some ⟨g, 0, none⟩) n cap), (24, .agg #[x0, x1, x2, x3, x4, x5, x6, x7, x8]), (25, .agg #[.int .u8 kd, .slice ps ls cs, .slice pk lk ck, .int .i64 gr, .int .i64 mn, .int .i64 mx, .int .u8 md, .int .u8 sp, .bool ng]), (8, .pointer (some ⟨b, 0, none⟩))] → (putL a0 [(22, .slice p n c), (23, .slice (some ⟨g, 0, none⟩) n cap), (24, .agg #[x0, x1, x2, x3, x4, x5, x6, x7, x8]), (25, .agg #[.int .u8 kd, .slice ps ls cs, .slice pk lk ck, .int .i64 gr, .int .i64 mn, .int .i64 mx, .int .u8 md, .int .u8 sp, .bool ng]), (8, .pointer (some ⟨b, 0, none⟩))]).tmps[s]? = some v := fun s v hm => (putL_get _ a0 s (by simp) (by rw [hsize]; simp)).2 v hm
 have q23 := get 23 (.slice (some ⟨g, 0, none⟩) n cap) (by simp)
 have q25 := get 25 (.agg #[.int .u8 kd, .slice ps ls cs, .slice pk lk ck, .int .i64 gr, .int .i64 mn, .int .i64 mx, .int .u8 md, .int .u8 sp, .bool ng]) (by simp)
 have q8 := get 8 (.pointer (some ⟨b, 0, none⟩)) (by simp)
 have e23 := eval_at q23
 have s5 : 7 < (putL a0 [(22, .slice p n c), (23, .slice (some ⟨g, 0, none⟩) n cap), (24, .agg #[x0, x1, x2, x3, x4, x5, x6, x7, x8]), (25, .agg #[.int .u8 kd, .slice ps ls cs, .slice pk lk ck, .int .i64 gr, .int .i64 mn, .int .i64 mx, .int .u8 md, .int .u8 sp, .bool ng]), (8, .pointer (some ⟨b, 0, none⟩))]).tmps.size := by rw [putL_size, hsize]; decide
 generalize hl : putL a0 [(22, .slice p n c), (23, .slice (some ⟨g, 0, none⟩) n cap), (24, .agg #[x0, x1, x2, x3, x4, x5, x6, x7, x8]), (25, .agg #[.int .u8 kd, .slice ps ls cs, .slice pk lk ck, .int .i64 gr, .int .i64 mn, .int .i64 mx, .int .u8 md, .int .u8 sp, .bool ng]), (8, .pointer (some ⟨b, 0, none⟩))] = a at q23 q25 q8 e23 s5 ⊢
 have r25 : (a.put (some 7) (.slice (some ⟨g, 0, none⟩) n cap)).tmps[25]? = some (.agg #[.int .u8 kd, .slice ps ls cs, .slice pk lk ck, .int .i64 gr, .int .i64 mn, .int .i64 mx, .int .u8 md, .int .u8 sp, .bool ng]) := by rw [put_get a 7 _ 25 s5, if_neg (by decide)]; exact q25
 have r8 : (a.put (some 7) (.slice (some ⟨g, 0, none⟩) n cap)).tmps[8]? = some (.pointer (some ⟨b, 0, none⟩)) := by rw [put_get a 7 _ 8 s5, if_neg (by decide)]; exact q8
 have g25 := eval_at r25
 have g8 := eval_at r8
 refine any_one (i := 5) (o := tj3o5) (by kernel_rfl) rfl ?_
 refine inv_val (G := fun u V => u = .slice (some ⟨g, 0, none⟩) n cap ∧ V = y) (R := fun _ _ => True) (wanted_none rfl) (v := .slice (some ⟨g, 0, none⟩) n cap) (w2 := y) (by simp only [execOp, tj3o5, e23]; go_simp) ?_ ⟨rfl, rfl⟩ trivial
 rintro u V ⟨rfl, rfl⟩ _
 have z := nine hbz
 obtain ⟨z0, z1, z2, z3, z4, z5, z6, z7, z8⟩ := z
 have hlt := hbz.lt
 have f0 := hbz.free
 show wpAny Tryz.prog .any tj3Ops Q 1 _ (a.put (some 7) (.slice (some ⟨g, 0, none⟩) n cap)) V
 refine any_one (i := 6) (o := tj3o6) (by kernel_rfl) rfl ?_
 refine inv_skip (wanted_none rfl) (w2 := putN9 V b (.int .u8 kd) (.slice ps ls cs) (.slice pk lk ck) (.int .i64 gr) (.int .i64 mn) (.int .i64 mx) (.int .u8 md) (.int .u8 sp) (.bool ng)) (by simp only [execOp, tj3o6, g8, g25]; unfold putN9; have f00 := f0 0; have f01 := f0 1; have f02 := f0 2; have f03 := f0 3; have f04 := f0 4; have f05 := f0 5; have f06 := f0 6; have f07 := f0 7; have f08 := f0 8; go_simp) ?_
 refine any_end (by kernel_rfl) ?_ 0
 show Q .normal (a.put (some 7) (.slice (some ⟨g, 0, none⟩) n cap)) _
 subst hl
 exact fin g cap b us yn (.int .u8 kd) (.slice ps ls cs) (.slice pk lk ck) (.int .i64 gr) (.int .i64 mn) (.int .i64 mx) (.int .u8 md) (.int .u8 sp) (.bool ng) _ hlit.symm (hji.put9 hbz (.int .u8 kd) (.slice ps ls cs) (.slice pk lk ck) (.int .i64 gr) (.int .i64 mn) (.int .i64 mx) (.int .u8 md) (.int .u8 sp) (.bool ng)) hzb (below_putN9 hb (show w.drew.heap.size ≤ b by rw [← hzw]; exact hzb) (.int .u8 kd) (.slice ps ls cs) (.slice pk lk ck) (.int .i64 gr) (.int .i64 mn) (.int .i64 mx) (.int .u8 md) (.int .u8 sp) (.bool ng)) (bx_putN9 hbz (.int .u8 kd) (.slice ps ls cs) (.slice pk lk ck) (.int .i64 gr) (.int .i64 mn) (.int .i64 mx) (.int .u8 md) (.int .u8 sp) (.bool ng))
def tj6o0 : Oper := ⟨some 32, Op.load 34 (.tmp 9), 34, "law.go:61", #[], none⟩
def tj6o1 : Oper := ⟨some 33, Op.load 34 (.tmp 10), 34, "law.go:61", #[], none⟩
def tj6o2 : Oper := ⟨some 34, Op.call ⟨.value (.func 11), #[.tmp 32, .tmp 33], #[34, 34]⟩, 4, "law.go:61", #[⟨0, .data⟩, ⟨1, .data⟩], none⟩
def tj6o3 : Oper := ⟨some 35, Op.unOp UnOp.not 4 (.tmp 34), 4, "law.go:61", #[⟨2, .data⟩], none⟩
def tj6o4 : Oper := ⟨some 36, Op.move (.tmp 35), 4, "law.go:61", #[⟨3, .data⟩, ⟨2, .chain⟩], none⟩
def tj6o5 : Oper := ⟨some 37, Op.load 34 (.tmp 9), 34, "law.go:61", #[⟨4, .guard⟩], some (4, false)⟩
def tj6o6 : Oper := ⟨some 38, Op.move (.tmp 2), 3, "law.go:61", #[⟨4, .guard⟩], some (4, false)⟩
def tj6o7 : Oper := ⟨some 39, Op.call ⟨.value (.func 12), #[.tmp 37, .tmp 38], #[34, 3]⟩, 34, "law.go:61", #[⟨5, .data⟩, ⟨6, .data⟩, ⟨4, .chain⟩, ⟨4, .guard⟩], some (4, false)⟩
def tj6o8 : Oper := ⟨some 40, Op.load 34 (.tmp 10), 34, "law.go:61", #[⟨4, .guard⟩], some (4, false)⟩
def tj6o9 : Oper := ⟨some 41, Op.move (.tmp 2), 3, "law.go:61", #[⟨4, .guard⟩], some (4, false)⟩
def tj6o10 : Oper := ⟨some 42, Op.call ⟨.value (.func 13), #[.tmp 40, .tmp 41], #[34, 3]⟩, 34, "law.go:61", #[⟨8, .data⟩, ⟨9, .data⟩, ⟨7, .chain⟩, ⟨4, .guard⟩], some (4, false)⟩
def tj6o11 : Oper := ⟨some 43, Op.call ⟨.value (.func 11), #[.tmp 39, .tmp 42], #[34, 34]⟩, 4, "law.go:61", #[⟨7, .data⟩, ⟨10, .data⟩, ⟨10, .chain⟩, ⟨4, .guard⟩], some (4, false)⟩
def tj6o12 : Oper := ⟨some 44, Op.unOp UnOp.not 4 (.tmp 43), 4, "law.go:61", #[⟨11, .data⟩, ⟨4, .guard⟩], some (4, false)⟩
def tj6o13 : Oper := ⟨some 45, Op.pick (.tmp 36) (.const (Value.bool true)) (.tmp 44), 4, "law.go:61", #[⟨4, .data⟩, ⟨12, .data⟩], none⟩
def tj6o14 : Oper := ⟨some 46, Op.move (.tmp 45), 4, "law.go:61", #[⟨13, .data⟩, ⟨11, .chain⟩], none⟩
def tj6o15 : Oper := ⟨some 47, Op.load 34 (.tmp 9), 34, "law.go:61", #[⟨14, .guard⟩], some (14, false)⟩
def tj6o16 : Oper := ⟨some 48, Op.call ⟨.value (.func 15), #[.tmp 47], #[34]⟩, 29, "law.go:61", #[⟨15, .data⟩, ⟨14, .chain⟩, ⟨14, .guard⟩], some (14, false)⟩
def tj6o17 : Oper := ⟨some 49, Op.load 34 (.tmp 10), 34, "law.go:61", #[⟨14, .guard⟩], some (14, false)⟩
def tj6o18 : Oper := ⟨some 50, Op.call ⟨.value (.func 16), #[.tmp 49], #[34]⟩, 29, "law.go:61", #[⟨17, .data⟩, ⟨16, .chain⟩, ⟨14, .guard⟩], some (14, false)⟩
def tj6o19 : Oper := ⟨some 51, Op.call { callee := Callee.value (.func 14), args := #[.tmp 48, .tmp 50], argTypes := #[29, 29] }, 4, "law.go:61", #[⟨16, .data⟩, ⟨18, .data⟩, ⟨18, .chain⟩, ⟨14, .guard⟩], some (14, false)⟩
def tj6o20 : Oper := ⟨some 52, Op.unOp UnOp.not 4 (.tmp 51), 4, "law.go:61", #[⟨19, .data⟩, ⟨14, .guard⟩], some (14, false)⟩
def tj6o21 : Oper := ⟨some 53, Op.pick (.tmp 46) (.const (Value.bool true)) (.tmp 52), 4, "law.go:61", #[⟨14, .data⟩, ⟨20, .data⟩], none⟩
def tj6Ops : Array Oper := #[tj6o0, tj6o1, tj6o2, tj6o3, tj6o4, tj6o5, tj6o6, tj6o7, tj6o8, tj6o9, tj6o10, tj6o11, tj6o12, tj6o13, tj6o14, tj6o15, tj6o16, tj6o17, tj6o18, tj6o19, tj6o20, tj6o21]
def tj6Pre : Array Bool := #[true, true, true, true, true, true, true, true, true, true, true, true, true, true, true, true, true, true, true, true, true, true]
def tj6K (_b9 _b10 : Nat) (q qw : Option Addr) (m cq mw cw : Nat) (at_ : Int) (L2 : List Nd) (LK : List (List Nd)) : Nat → Kc
 | 0 => Kc.val (.agg #[.slice q m cq, .slice none 0 0])
 | 1 => Kc.val (.agg #[.slice qw mw cw, .slice none 0 0])
 | 2 => Kc.val (.bool true)
 | 3 => Kc.val (.bool false)
 | 4 => Kc.val (.bool false)
 | 5 => Kc.val (.agg #[.slice q m cq, .slice none 0 0])
 | 6 => Kc.val (.int .i64 at_)
 | 7 => Kc.treeL L2
 | 8 => Kc.val (.agg #[.slice qw mw cw, .slice none 0 0])
 | 9 => Kc.val (.int .i64 at_)
 | 10 => Kc.treeL L2
 | 11 => Kc.val (.bool true)
 | 12 => Kc.val (.bool false)
 | 13 => Kc.val (.bool false)
 | 14 => Kc.val (.bool false)
 | 15 => Kc.val (.agg #[.slice q m cq, .slice none 0 0])
 | 16 => Kc.kidsL LK
 | 17 => Kc.val (.agg #[.slice qw mw cw, .slice none 0 0])
 | 18 => Kc.kidsL LK
 | 19 => Kc.val (.bool true)
 | 20 => Kc.val (.bool false)
 | 21 => Kc.val (.bool false)
 | _ => Kc.val undef
theorem tj6_slots (f : Nat → Value) : slotsOf tj6Ops tj6Pre f = [(32, f 0), (33, f 1), (34, f 2), (35, f 3), (36, f 4), (37, f 5), (38, f 6), (39, f 7), (40, f 8), (41, f 9), (42, f 10), (43, f 11), (44, f 12), (45, f 13), (46, f 14), (47, f 15), (48, f 16), (49, f 17), (50, f 18), (51, f 19), (52, f 20), (53, f 21)] := by kernel_rfl
theorem tj6_wp {Q : Exit → Act → World → Prop} {a0 : Act} {w : World} (b9 b10 : Nat) (q qw : Option Addr) (m cq mw cw : Nat) (at_ : Int) (L2 : List Nd) (LK : List (List Nd)) (hsize : a0.tmps.size = 109) (h2 : a0.tmps[2]? = some (.int .i64 at_)) (h9 : a0.tmps[9]? = some (.pointer (some ⟨b9, 0, none⟩))) (h10 : a0.tmps[10]? = some (.pointer (some ⟨b10, 0, none⟩)))
  (ht : Bx w.drew b9 34 #[.slice q m cq, .slice none 0 0]) (hw10 : Bx w.drew b10 34 #[.slice qw mw cw, .slice none 0 0])
  (hs1 : ∀ V, Below w.drew.heap.size w.drew V → Calls Tryz.prog 11 #[.agg #[.slice q m cq, .slice none 0 0], .agg #[.slice qw mw cw, .slice none 0 0]] V fun e w' => e = .returned (.bool true) ∧ Below V.heap.size V w')
  (hof : ∀ V, Below w.drew.heap.size w.drew V → Calls Tryz.prog 12 #[.agg #[.slice q m cq, .slice none 0 0], .int .i64 at_] V fun e w' => ∃ q m cq zs, m = zs.length ∧ e = .returned (.agg #[.slice q m cq, .slice none 0 0]) ∧ SlN w' q zs ∧ nds zs = L2 ∧ Below V.heap.size V w')
  (hrof : ∀ V, Below w.drew.heap.size w.drew V → Calls Tryz.prog 13 #[.agg #[.slice qw mw cw, .slice none 0 0], .int .i64 at_] V fun e w' => ∃ q m cq zs, m = zs.length ∧ e = .returned (.agg #[.slice q m cq, .slice none 0 0]) ∧ SlN w' q zs ∧ nds zs = L2 ∧ Below V.heap.size V w')
  (hsame : ∀ (V : World) (qa qb : Option Addr) (ma ca mb cb : Nat) (xs zs : List NV), Below w.drew.heap.size w.drew V → ma = xs.length → mb = zs.length → SlN V qa xs → SlN V qb zs → nds xs = L2 → nds zs = L2 → Calls Tryz.prog 11 #[.agg #[.slice qa ma ca, .slice none 0 0], .agg #[.slice qb mb cb, .slice none 0 0]] V fun e w' => e = .returned (.bool true) ∧ Below V.heap.size V w')
  (hkids : ∀ V, Below w.drew.heap.size w.drew V → Calls Tryz.prog 15 #[.agg #[.slice q m cq, .slice none 0 0]] V fun e w' => ∃ q m cq zs, m = zs.length ∧ e = .returned (.slice q m cq) ∧ SlT w' q zs ∧ treesN zs = LK ∧ Bare zs ∧ Below V.heap.size V w')
  (hrkids : ∀ V, Below w.drew.heap.size w.drew V → Calls Tryz.prog 16 #[.agg #[.slice qw mw cw, .slice none 0 0]] V fun e w' => ∃ q m cq zs, m = zs.length ∧ e = .returned (.slice q m cq) ∧ SlT w' q zs ∧ treesN zs = LK ∧ Bare zs ∧ Below V.heap.size V w')
  (hsameT : ∀ (V : World) (qa qb : Option Addr) (ma ca mb cb : Nat) (xs zs : List TV), Below w.drew.heap.size w.drew V → ma = xs.length → mb = zs.length → SlT V qa xs → SlT V qb zs → treesN xs = LK → treesN zs = LK → Bare xs → Bare zs → Calls Tryz.prog 14 #[.slice qa ma ca, .slice qb mb cb] V fun e w' => e = .returned (.bool true) ∧ Below V.heap.size V w')
  (fin : ∀ (f : Nat → Value) (y : World), (∀ j, j < 22 → tj6Pre.getD j false = true → (tj6K b9 b10 q qw m cq mw cw at_ L2 LK j).P (f j) y) → Below w.drew.heap.size w.drew y → Q .normal (putL a0 [(32, f 0), (33, f 1), (34, f 2), (35, f 3), (36, f 4), (37, f 5), (38, f 6), (39, f 7), (40, f 8), (41, f 9), (42, f 10), (43, f 11), (44, f 12), (45, f 13), (46, f 14), (47, f 15), (48, f 16), (49, f 17), (50, f 18), (51, f 19), (52, f 20), (53, f 21)]) y) (id : Nat) :
  (Code.region id tj6Ops true).wp Tryz.prog Q a0 w := by
 refine wp_region_inv tj6Pre (fun j => (tj6K b9 b10 q qw m cq mw cw at_ L2 LK j).P) (fun x y => Below x.heap.size x y) 22 0 (by kernel_rfl) (by kernel_rfl) (by rw [hsize]; kernel_rfl) (by kernel_rfl) (by kernel_rfl) (Below.refl _ _) (fun _ _ _ h1 h2 => bl_trans h1 h2) (fun j _ _ _ h1 h2 => (tj6K b9 b10 q qw m cq mw cw at_ L2 LK j).keep h1 h2) ?_ (fun f y h1 h2 => by rw [tj6_slots]; exact any_end (by kernel_rfl) (fin f y h1 h2) 0)
 intro i o ho hp f a x hR hbase hdeps K hK
 have hi : i < 22 := by
  rcases Nat.lt_or_ge i 22 with h | h
  ·exact h
  ·have : tj6Ops.size ≤ i := h
   rw [Array.getElem?_eq_none this] at ho; cases ho
 have dep : ∀ j, (o.after.any fun e => Region.binds .any e && e.on == j) = true → (∀ s, slotOf tj6Ops j = some s → a.tmps[s]? = some (f j)) ∧ (tj6K b9 b10 q qw m cq mw cw at_ L2 LK j).P (f j) x := by
  intro j h
  obtain ⟨e, he, h2⟩ := Array.any_eq_true'.1 h
  simp only [Bool.and_eq_true, beq_iff_eq] at h2
  obtain ⟨h3, rfl⟩ := h2
  exact hdeps e he h3
 have dv : ∀ (j s : Nat) {v : Value}, (o.after.any fun e => Region.binds .any e && e.on == j) = true → slotOf tj6Ops j = some s → tj6K b9 b10 q qw m cq mw cw at_ L2 LK j = Kc.val v → a.tmps[s]? = some v := fun j s v h1 h2 h3 => by
  obtain ⟨t, g⟩ := dep j h1
  rw [h3] at g
  have e : f j = v := g
  rw [← e]; exact t s h2
 have bv : ∀ {s : Nat} {v : Value}, a0.tmps[s]? = some v → ((List.range tj6Ops.size).all fun j => slotOf tj6Ops j != some s) = true → a.tmps[s]? = some v := by
  intro s v h0 h
  rw [hbase s fun j hj _ e => ?_]; exact h0
  have h2 := (List.all_eq_true.1 h) j (List.mem_range.2 hj)
  rw [e] at h2; simp at h2
 match i, hi with
 | 0, _ =>
  cases opat (o' := tj6o0) ho rfl
  have eb9 := eval_at (bv h9 (by kernel_rfl))
  have kt0 : x.cell? ⟨b9, 0, none⟩ = some (.slice q m cq) := (ht.below hR).cell rfl
  have kt1 : x.cell? ⟨b9, 1, none⟩ = some (.slice none 0 0) := (ht.below hR).cell rfl
  exact inv_stay hK rfl (by simp only [execOp, tj6o0, eb9]; go_simp) (wanted_none rfl)
 | 1, _ =>
  cases opat (o' := tj6o1) ho rfl
  have eb10 := eval_at (bv h10 (by kernel_rfl))
  have kt0 : x.cell? ⟨b10, 0, none⟩ = some (.slice qw mw cw) := (hw10.below hR).cell rfl
  have kt1 : x.cell? ⟨b10, 1, none⟩ = some (.slice none 0 0) := (hw10.below hR).cell rfl
  exact inv_stay hK rfl (by simp only [execOp, tj6o1, eb10]; go_simp) (wanted_none rfl)
 | 2, _ =>
  cases opat (o' := tj6o2) ho rfl
  have q0 := dv 0 32 (by kernel_rfl) rfl rfl
  have q1 := dv 1 33 (by kernel_rfl) rfl rfl
  refine inv_enter 11 #[.agg #[.slice q m cq, .slice none 0 0], .agg #[.slice qw mw cw, .slice none 0 0]] hK (by simp [go_sem, tj6o2, q0, q1]) (wanted_none rfl) ?_
  refine (hs1 x hR).mono ?_
  rintro e y ⟨rfl, h⟩
  exact ⟨_, rfl, rfl, h⟩
 | 3, _ =>
  cases opat (o' := tj6o3) ho rfl
  have e2 := eval_at (dv 2 34 (by kernel_rfl) rfl rfl)
  exact inv_stay hK rfl (by simp only [execOp, tj6o3, e2]; go_simp) (wanted_none rfl)
 | 4, _ =>
  cases opat (o' := tj6o4) ho rfl
  have e3 := eval_at (dv 3 35 (by kernel_rfl) rfl rfl)
  exact inv_stay hK rfl (by simp only [execOp, tj6o4, e3]; go_simp) (wanted_none rfl)
 | 5, _ =>
  cases opat (o' := tj6o5) ho rfl
  have q4 := dv 4 36 (by kernel_rfl) rfl rfl
  have eb9 := eval_at (bv h9 (by kernel_rfl))
  have kt0 : x.cell? ⟨b9, 0, none⟩ = some (.slice q m cq) := (ht.below hR).cell rfl
  have kt1 : x.cell? ⟨b9, 1, none⟩ = some (.slice none 0 0) := (ht.below hR).cell rfl
  exact inv_stay hK rfl (by simp only [execOp, tj6o5, eb9]; go_simp) (wanted_t q4 rfl rfl)
 | 6, _ =>
  cases opat (o' := tj6o6) ho rfl
  have q4 := dv 4 36 (by kernel_rfl) rfl rfl
  have eb2 := eval_at (bv h2 (by kernel_rfl))
  exact inv_stay hK rfl (by simp only [execOp, tj6o6, eb2]; go_simp) (wanted_t q4 rfl rfl)
 | 7, _ =>
  cases opat (o' := tj6o7) ho rfl
  have q4 := dv 4 36 (by kernel_rfl) rfl rfl
  have q5 := dv 5 37 (by kernel_rfl) rfl rfl
  have q6 := dv 6 38 (by kernel_rfl) rfl rfl
  refine inv_enter 12 #[.agg #[.slice q m cq, .slice none 0 0], .int .i64 at_] hK (by simp [go_sem, tj6o7, q5, q6]) (wanted_t q4 rfl rfl) ?_
  refine (hof x hR).mono ?_
  rintro e y ⟨q1, m1, c1, zs, h1, rfl, h2, h3, h⟩
  exact ⟨_, rfl, ⟨q1, m1, c1, zs, rfl, h1, h2, h3⟩, h⟩
 | 8, _ =>
  cases opat (o' := tj6o8) ho rfl
  have q4 := dv 4 36 (by kernel_rfl) rfl rfl
  have eb10 := eval_at (bv h10 (by kernel_rfl))
  have kt0 : x.cell? ⟨b10, 0, none⟩ = some (.slice qw mw cw) := (hw10.below hR).cell rfl
  have kt1 : x.cell? ⟨b10, 1, none⟩ = some (.slice none 0 0) := (hw10.below hR).cell rfl
  exact inv_stay hK rfl (by simp only [execOp, tj6o8, eb10]; go_simp) (wanted_t q4 rfl rfl)
 | 9, _ =>
  cases opat (o' := tj6o9) ho rfl
  have q4 := dv 4 36 (by kernel_rfl) rfl rfl
  have eb2 := eval_at (bv h2 (by kernel_rfl))
  exact inv_stay hK rfl (by simp only [execOp, tj6o9, eb2]; go_simp) (wanted_t q4 rfl rfl)
 | 10, _ =>
  cases opat (o' := tj6o10) ho rfl
  have q4 := dv 4 36 (by kernel_rfl) rfl rfl
  have q8 := dv 8 40 (by kernel_rfl) rfl rfl
  have q9 := dv 9 41 (by kernel_rfl) rfl rfl
  refine inv_enter 13 #[.agg #[.slice qw mw cw, .slice none 0 0], .int .i64 at_] hK (by simp [go_sem, tj6o10, q8, q9]) (wanted_t q4 rfl rfl) ?_
  refine (hrof x hR).mono ?_
  rintro e y ⟨q1, m1, c1, zs, h1, rfl, h2, h3, h⟩
  exact ⟨_, rfl, ⟨q1, m1, c1, zs, rfl, h1, h2, h3⟩, h⟩
 | 11, _ =>
  cases opat (o' := tj6o11) ho rfl
  have q4 := dv 4 36 (by kernel_rfl) rfl rfl
  obtain ⟨t7, g7⟩ := dep 7 (by kernel_rfl)
  have q7 := t7 39 (by rfl)
  have e7 := eval_at q7
  obtain ⟨t10, g10⟩ := dep 10 (by kernel_rfl)
  have q10 := t10 42 (by rfl)
  have e10 := eval_at q10
  obtain ⟨qa, ma, ca, xs, hv1, hl1, hs1, hn1⟩ := g7
  obtain ⟨qb, mb, cb, zs, hv2, hl2, hs2, hn2⟩ := g10
  rw [hv1] at q7
  rw [hv2] at q10
  refine inv_enter 11 #[.agg #[.slice qa ma ca, .slice none 0 0], .agg #[.slice qb mb cb, .slice none 0 0]] hK (by simp [go_sem, tj6o11, q7, q10]) (wanted_t q4 rfl rfl) ?_
  refine (hsame x qa qb ma ca mb cb xs zs hR hl1 hl2 hs1 hs2 hn1 hn2).mono ?_
  rintro e y ⟨rfl, h⟩
  exact ⟨_, rfl, rfl, h⟩
 | 12, _ =>
  cases opat (o' := tj6o12) ho rfl
  have q4 := dv 4 36 (by kernel_rfl) rfl rfl
  have e11 := eval_at (dv 11 43 (by kernel_rfl) rfl rfl)
  exact inv_stay hK rfl (by simp only [execOp, tj6o12, e11]; go_simp) (wanted_t q4 rfl rfl)
 | 13, _ =>
  cases opat (o' := tj6o13) ho rfl
  have e4 := eval_at (dv 4 36 (by kernel_rfl) rfl rfl)
  have e12 := eval_at (dv 12 44 (by kernel_rfl) rfl rfl)
  exact inv_stay hK rfl (by simp only [execOp, tj6o13, e4, e12]; go_simp) (wanted_none rfl)
 | 14, _ =>
  cases opat (o' := tj6o14) ho rfl
  have e13 := eval_at (dv 13 45 (by kernel_rfl) rfl rfl)
  exact inv_stay hK rfl (by simp only [execOp, tj6o14, e13]; go_simp) (wanted_none rfl)
 | 15, _ =>
  cases opat (o' := tj6o15) ho rfl
  have q14 := dv 14 46 (by kernel_rfl) rfl rfl
  have eb9 := eval_at (bv h9 (by kernel_rfl))
  have kt0 : x.cell? ⟨b9, 0, none⟩ = some (.slice q m cq) := (ht.below hR).cell rfl
  have kt1 : x.cell? ⟨b9, 1, none⟩ = some (.slice none 0 0) := (ht.below hR).cell rfl
  exact inv_stay hK rfl (by simp only [execOp, tj6o15, eb9]; go_simp) (wanted_t q14 rfl rfl)
 | 16, _ =>
  cases opat (o' := tj6o16) ho rfl
  have q14 := dv 14 46 (by kernel_rfl) rfl rfl
  have q15 := dv 15 47 (by kernel_rfl) rfl rfl
  refine inv_enter 15 #[.agg #[.slice q m cq, .slice none 0 0]] hK (by simp [go_sem, tj6o16, q15]) (wanted_t q14 rfl rfl) ?_
  refine (hkids x hR).mono ?_
  rintro e y ⟨q1, m1, c1, zs, h1, rfl, h2, h3, h4, h⟩
  exact ⟨_, rfl, ⟨q1, m1, c1, zs, rfl, h1, h2, h3, h4⟩, h⟩
 | 17, _ =>
  cases opat (o' := tj6o17) ho rfl
  have q14 := dv 14 46 (by kernel_rfl) rfl rfl
  have eb10 := eval_at (bv h10 (by kernel_rfl))
  have kt0 : x.cell? ⟨b10, 0, none⟩ = some (.slice qw mw cw) := (hw10.below hR).cell rfl
  have kt1 : x.cell? ⟨b10, 1, none⟩ = some (.slice none 0 0) := (hw10.below hR).cell rfl
  exact inv_stay hK rfl (by simp only [execOp, tj6o17, eb10]; go_simp) (wanted_t q14 rfl rfl)
 | 18, _ =>
  cases opat (o' := tj6o18) ho rfl
  have q14 := dv 14 46 (by kernel_rfl) rfl rfl
  have q17 := dv 17 49 (by kernel_rfl) rfl rfl
  refine inv_enter 16 #[.agg #[.slice qw mw cw, .slice none 0 0]] hK (by simp [go_sem, tj6o18, q17]) (wanted_t q14 rfl rfl) ?_
  refine (hrkids x hR).mono ?_
  rintro e y ⟨q1, m1, c1, zs, h1, rfl, h2, h3, h4, h⟩
  exact ⟨_, rfl, ⟨q1, m1, c1, zs, rfl, h1, h2, h3, h4⟩, h⟩
 | 19, _ =>
  cases opat (o' := tj6o19) ho rfl
  have q14 := dv 14 46 (by kernel_rfl) rfl rfl
  obtain ⟨t16, g16⟩ := dep 16 (by kernel_rfl)
  have q16 := t16 48 (by rfl)
  have e16 := eval_at q16
  obtain ⟨t18, g18⟩ := dep 18 (by kernel_rfl)
  have q18 := t18 50 (by rfl)
  have e18 := eval_at q18
  obtain ⟨qa, ma, ca, xs, hv1, hl1, hs1, hn1, hb1⟩ := g16
  obtain ⟨qb, mb, cb, zs, hv2, hl2, hs2, hn2, hb2⟩ := g18
  rw [hv1] at q16
  rw [hv2] at q18
  refine inv_enter 14 #[.slice qa ma ca, .slice qb mb cb] hK (by simp [go_sem, tj6o19, q16, q18]) (wanted_t q14 rfl rfl) ?_
  refine (hsameT x qa qb ma ca mb cb xs zs hR hl1 hl2 hs1 hs2 hn1 hn2 hb1 hb2).mono ?_
  rintro e y ⟨rfl, h⟩
  exact ⟨_, rfl, rfl, h⟩
 | 20, _ =>
  cases opat (o' := tj6o20) ho rfl
  have q14 := dv 14 46 (by kernel_rfl) rfl rfl
  have e19 := eval_at (dv 19 51 (by kernel_rfl) rfl rfl)
  exact inv_stay hK rfl (by simp only [execOp, tj6o20, e19]; go_simp) (wanted_t q14 rfl rfl)
 | 21, _ =>
  cases opat (o' := tj6o21) ho rfl
  have e14 := eval_at (dv 14 46 (by kernel_rfl) rfl rfl)
  have e20 := eval_at (dv 20 52 (by kernel_rfl) rfl rfl)
  exact inv_stay hK rfl (by simp only [execOp, tj6o21, e14, e20]; go_simp) (wanted_none rfl)
def tj11o0 : Oper := ⟨some 60, Op.move (.tmp 7), 29, "law.go:65", #[], none⟩
def tj11o1 : Oper := ⟨some 61, Op.move (.tmp 11), 3, "law.go:65", #[], none⟩
def tj11o2 : Oper := ⟨some 62, Op.indexAddr 29 (.tmp 60) (.tmp 61), 0, "law.go:65", #[⟨0, .data⟩, ⟨1, .data⟩], none⟩
def tj11o3 : Oper := ⟨some 63, Op.load 34 (.tmp 62), 34, "law.go:65", #[⟨2, .data⟩], none⟩
def tj11o4 : Oper := ⟨some 64, Op.move (.tmp 2), 3, "law.go:65", #[], none⟩
def tj11o5 : Oper := ⟨some 65, Op.call ⟨.value (.func 12), #[.tmp 63, .tmp 64], #[34, 3]⟩, 34, "law.go:65", #[⟨3, .data⟩, ⟨4, .data⟩], none⟩
def tj11o6 : Oper := ⟨some 66, Op.move (.tmp 1), 29, "law.go:65", #[], none⟩
def tj11o7 : Oper := ⟨some 67, Op.move (.tmp 11), 3, "law.go:65", #[], none⟩
def tj11o8 : Oper := ⟨some 68, Op.indexAddr 29 (.tmp 66) (.tmp 67), 0, "law.go:65", #[⟨6, .data⟩, ⟨7, .data⟩], none⟩
def tj11o9 : Oper := ⟨some 69, Op.load 34 (.tmp 68), 34, "law.go:65", #[⟨8, .data⟩], none⟩
def tj11o10 : Oper := ⟨some 70, Op.move (.tmp 2), 3, "law.go:65", #[], none⟩
def tj11o11 : Oper := ⟨some 71, Op.call ⟨.value (.func 13), #[.tmp 69, .tmp 70], #[34, 3]⟩, 34, "law.go:65", #[⟨9, .data⟩, ⟨10, .data⟩, ⟨5, .chain⟩], none⟩
def tj11o12 : Oper := ⟨some 72, Op.call ⟨.value (.func 11), #[.tmp 65, .tmp 71], #[34, 34]⟩, 4, "law.go:65", #[⟨5, .data⟩, ⟨11, .data⟩, ⟨11, .chain⟩], none⟩
def tj11o13 : Oper := ⟨some 73, Op.unOp UnOp.not 4 (.tmp 72), 4, "law.go:65", #[⟨12, .data⟩], none⟩
def tj11Ops : Array Oper := #[tj11o0, tj11o1, tj11o2, tj11o3, tj11o4, tj11o5, tj11o6, tj11o7, tj11o8, tj11o9, tj11o10, tj11o11, tj11o12, tj11o13]
def tj11Pre : Array Bool := #[true, true, true, true, true, true, true, true, true, true, true, true, true, true]
def tj11K (bp op g n c cap ix : Nat) (uq una tq tna : Option Addr) (ul uc unn unc tl tc tnn tnc : Nat) (at_ : Int) (L2 : List Nd) : Nat → Kc
 | 0 => Kc.val (.slice (some ⟨g, 0, none⟩) n cap)
 | 1 => Kc.val (.int .i64 ((ix : Nat) : Int))
 | 2 => Kc.val (.pointer (some ⟨g, ix * 2, none⟩))
 | 3 => Kc.val (.agg #[.slice uq ul uc, .slice una unn unc])
 | 4 => Kc.val (.int .i64 at_)
 | 5 => Kc.treeL L2
 | 6 => Kc.val (.slice (some ⟨bp, op, none⟩) n c)
 | 7 => Kc.val (.int .i64 ((ix : Nat) : Int))
 | 8 => Kc.val (.pointer (some ⟨bp, op + ix * 2, none⟩))
 | 9 => Kc.val (.agg #[.slice tq tl tc, .slice tna tnn tnc])
 | 10 => Kc.val (.int .i64 at_)
 | 11 => Kc.treeL L2
 | 12 => Kc.val (.bool true)
 | 13 => Kc.val (.bool false)
 | _ => Kc.val undef
theorem tj11_slots (f : Nat → Value) : slotsOf tj11Ops tj11Pre f = [(60, f 0), (61, f 1), (62, f 2), (63, f 3), (64, f 4), (65, f 5), (66, f 6), (67, f 7), (68, f 8), (69, f 9), (70, f 10), (71, f 11), (72, f 12), (73, f 13)] := by kernel_rfl
theorem tj11_wp {Q : Exit → Act → World → Prop} {a0 : Act} {w : World} (bp op g n c cap ix : Nat) (uq una tq tna : Option Addr) (ul uc unn unc tl tc tnn tnc : Nat) (at_ : Int) (L2 : List Nd) (hsize : a0.tmps.size = 109) (h1 : a0.tmps[1]? = some (.slice (some ⟨bp, op, none⟩) n c)) (h2 : a0.tmps[2]? = some (.int .i64 at_)) (h7 : a0.tmps[7]? = some (.slice (some ⟨g, 0, none⟩) n cap)) (h11 : a0.tmps[11]? = some (.int .i64 ((ix : Nat) : Int))) (hin : ix < n)
  (hu0 : w.drew.cell? ⟨g, ix * 2, none⟩ = some (.slice uq ul uc)) (hu1 : w.drew.cell? ⟨g, ix * 2 + 1, none⟩ = some (.slice una unn unc))
  (ht0 : w.drew.cell? ⟨bp, op + ix * 2, none⟩ = some (.slice tq tl tc)) (ht1 : w.drew.cell? ⟨bp, op + ix * 2 + 1, none⟩ = some (.slice tna tnn tnc))
  (hof : ∀ V, Below w.drew.heap.size w.drew V → Calls Tryz.prog 12 #[.agg #[.slice uq ul uc, .slice una unn unc], .int .i64 at_] V fun e w' => ∃ q m cq zs, m = zs.length ∧ e = .returned (.agg #[.slice q m cq, .slice none 0 0]) ∧ SlN w' q zs ∧ nds zs = L2 ∧ Below V.heap.size V w')
  (hrof : ∀ V, Below w.drew.heap.size w.drew V → Calls Tryz.prog 13 #[.agg #[.slice tq tl tc, .slice tna tnn tnc], .int .i64 at_] V fun e w' => ∃ q m cq zs, m = zs.length ∧ e = .returned (.agg #[.slice q m cq, .slice none 0 0]) ∧ SlN w' q zs ∧ nds zs = L2 ∧ Below V.heap.size V w')
  (hsame : ∀ (V : World) (qa qb : Option Addr) (ma ca mb cb : Nat) (xs zs : List NV), Below w.drew.heap.size w.drew V → ma = xs.length → mb = zs.length → SlN V qa xs → SlN V qb zs → nds xs = L2 → nds zs = L2 → Calls Tryz.prog 11 #[.agg #[.slice qa ma ca, .slice none 0 0], .agg #[.slice qb mb cb, .slice none 0 0]] V fun e w' => e = .returned (.bool true) ∧ Below V.heap.size V w')
  (fin : ∀ (f : Nat → Value) (y : World), (∀ j, j < 14 → tj11Pre.getD j false = true → (tj11K bp op g n c cap ix uq una tq tna ul uc unn unc tl tc tnn tnc at_ L2 j).P (f j) y) → Below w.drew.heap.size w.drew y → Q .normal (putL a0 [(60, f 0), (61, f 1), (62, f 2), (63, f 3), (64, f 4), (65, f 5), (66, f 6), (67, f 7), (68, f 8), (69, f 9), (70, f 10), (71, f 11), (72, f 12), (73, f 13)]) y) (id : Nat) :
  (Code.region id tj11Ops true).wp Tryz.prog Q a0 w := by
 refine wp_region_inv tj11Pre (fun j => (tj11K bp op g n c cap ix uq una tq tna ul uc unn unc tl tc tnn tnc at_ L2 j).P) (fun x y => Below x.heap.size x y) 14 0 (by kernel_rfl) (by kernel_rfl) (by rw [hsize]; kernel_rfl) (by kernel_rfl) (by kernel_rfl) (Below.refl _ _) (fun _ _ _ h1 h2 => bl_trans h1 h2) (fun j _ _ _ h1 h2 => (tj11K bp op g n c cap ix uq una tq tna ul uc unn unc tl tc tnn tnc at_ L2 j).keep h1 h2) ?_ (fun f y h1 h2 => by rw [tj11_slots]; exact any_end (by kernel_rfl) (fin f y h1 h2) 0)
 intro i o ho hp f a x hR hbase hdeps K hK
 have hi : i < 14 := by
  rcases Nat.lt_or_ge i 14 with h | h
  ·exact h
  ·have : tj11Ops.size ≤ i := h
   rw [Array.getElem?_eq_none this] at ho; cases ho
 have dep : ∀ j, (o.after.any fun e => Region.binds .any e && e.on == j) = true → (∀ s, slotOf tj11Ops j = some s → a.tmps[s]? = some (f j)) ∧ (tj11K bp op g n c cap ix uq una tq tna ul uc unn unc tl tc tnn tnc at_ L2 j).P (f j) x := by
  intro j h
  obtain ⟨e, he, h2⟩ := Array.any_eq_true'.1 h
  simp only [Bool.and_eq_true, beq_iff_eq] at h2
  obtain ⟨h3, rfl⟩ := h2
  exact hdeps e he h3
 have dv : ∀ (j s : Nat) {v : Value}, (o.after.any fun e => Region.binds .any e && e.on == j) = true → slotOf tj11Ops j = some s → tj11K bp op g n c cap ix uq una tq tna ul uc unn unc tl tc tnn tnc at_ L2 j = Kc.val v → a.tmps[s]? = some v := fun j s v h1 h2 h3 => by
  obtain ⟨t, g⟩ := dep j h1
  rw [h3] at g
  have e : f j = v := g
  rw [← e]; exact t s h2
 have bv : ∀ {s : Nat} {v : Value}, a0.tmps[s]? = some v → ((List.range tj11Ops.size).all fun j => slotOf tj11Ops j != some s) = true → a.tmps[s]? = some v := by
  intro s v h0 h
  rw [hbase s fun j hj _ e => ?_]; exact h0
  have h2 := (List.all_eq_true.1 h) j (List.mem_range.2 hj)
  rw [e] at h2; simp at h2
 match i, hi with
 | 0, _ =>
  cases opat (o' := tj11o0) ho rfl
  have eb7 := eval_at (bv h7 (by kernel_rfl))
  exact inv_stay hK rfl (by simp only [execOp, tj11o0, eb7]; go_simp) (wanted_none rfl)
 | 1, _ =>
  cases opat (o' := tj11o1) ho rfl
  have eb11 := eval_at (bv h11 (by kernel_rfl))
  exact inv_stay hK rfl (by simp only [execOp, tj11o1, eb11]; go_simp) (wanted_none rfl)
 | 2, _ =>
  cases opat (o' := tj11o2) ho rfl
  have e0 := eval_at (dv 0 60 (by kernel_rfl) rfl rfl)
  have e1 := eval_at (dv 1 61 (by kernel_rfl) rfl rfl)
  have hiI : ((ix : Nat) : Int) < ((n : Nat) : Int) := by omega
  exact inv_stay hK rfl (by simp only [execOp, tj11o2, e0, e1]; go_simp) (wanted_none rfl)
 | 3, _ =>
  cases opat (o' := tj11o3) ho rfl
  have e2 := eval_at (dv 2 62 (by kernel_rfl) rfl rfl)
  have ku0 := keep_cellK hR hu0
  have ku1 := keep_cellK hR hu1
  exact inv_stay hK rfl (by simp only [execOp, tj11o3, e2]; go_simp) (wanted_none rfl)
 | 4, _ =>
  cases opat (o' := tj11o4) ho rfl
  have eb2 := eval_at (bv h2 (by kernel_rfl))
  exact inv_stay hK rfl (by simp only [execOp, tj11o4, eb2]; go_simp) (wanted_none rfl)
 | 5, _ =>
  cases opat (o' := tj11o5) ho rfl
  have q3 := dv 3 63 (by kernel_rfl) rfl rfl
  have q4 := dv 4 64 (by kernel_rfl) rfl rfl
  refine inv_enter 12 #[.agg #[.slice uq ul uc, .slice una unn unc], .int .i64 at_] hK (by simp [go_sem, tj11o5, q3, q4]) (wanted_none rfl) ?_
  refine (hof x hR).mono ?_
  rintro e y ⟨q1, m1, c1, zs, h1, rfl, h2, h3, h⟩
  exact ⟨_, rfl, ⟨q1, m1, c1, zs, rfl, h1, h2, h3⟩, h⟩
 | 6, _ =>
  cases opat (o' := tj11o6) ho rfl
  have eb1 := eval_at (bv h1 (by kernel_rfl))
  exact inv_stay hK rfl (by simp only [execOp, tj11o6, eb1]; go_simp) (wanted_none rfl)
 | 7, _ =>
  cases opat (o' := tj11o7) ho rfl
  have eb11 := eval_at (bv h11 (by kernel_rfl))
  exact inv_stay hK rfl (by simp only [execOp, tj11o7, eb11]; go_simp) (wanted_none rfl)
 | 8, _ =>
  cases opat (o' := tj11o8) ho rfl
  have e6 := eval_at (dv 6 66 (by kernel_rfl) rfl rfl)
  have e7 := eval_at (dv 7 67 (by kernel_rfl) rfl rfl)
  have hiI : ((ix : Nat) : Int) < ((n : Nat) : Int) := by omega
  exact inv_stay hK rfl (by simp only [execOp, tj11o8, e6, e7]; go_simp) (wanted_none rfl)
 | 9, _ =>
  cases opat (o' := tj11o9) ho rfl
  have e8 := eval_at (dv 8 68 (by kernel_rfl) rfl rfl)
  have kt0 := keep_cellK hR ht0
  have kt1 := keep_cellK hR ht1
  exact inv_stay hK rfl (by simp only [execOp, tj11o9, e8]; go_simp) (wanted_none rfl)
 | 10, _ =>
  cases opat (o' := tj11o10) ho rfl
  have eb2 := eval_at (bv h2 (by kernel_rfl))
  exact inv_stay hK rfl (by simp only [execOp, tj11o10, eb2]; go_simp) (wanted_none rfl)
 | 11, _ =>
  cases opat (o' := tj11o11) ho rfl
  have q9 := dv 9 69 (by kernel_rfl) rfl rfl
  have q10 := dv 10 70 (by kernel_rfl) rfl rfl
  refine inv_enter 13 #[.agg #[.slice tq tl tc, .slice tna tnn tnc], .int .i64 at_] hK (by simp [go_sem, tj11o11, q9, q10]) (wanted_none rfl) ?_
  refine (hrof x hR).mono ?_
  rintro e y ⟨q1, m1, c1, zs, h1, rfl, h2, h3, h⟩
  exact ⟨_, rfl, ⟨q1, m1, c1, zs, rfl, h1, h2, h3⟩, h⟩
 | 12, _ =>
  cases opat (o' := tj11o12) ho rfl
  obtain ⟨t5, g5⟩ := dep 5 (by kernel_rfl)
  have q5 := t5 65 (by rfl)
  have e5 := eval_at q5
  obtain ⟨t11, g11⟩ := dep 11 (by kernel_rfl)
  have q11 := t11 71 (by rfl)
  have e11 := eval_at q11
  obtain ⟨qa, ma, ca, xs, hv1, hl1, hs1, hn1⟩ := g5
  obtain ⟨qb, mb, cb, zs, hv2, hl2, hs2, hn2⟩ := g11
  rw [hv1] at q5
  rw [hv2] at q11
  refine inv_enter 11 #[.agg #[.slice qa ma ca, .slice none 0 0], .agg #[.slice qb mb cb, .slice none 0 0]] hK (by simp [go_sem, tj11o12, q5, q11]) (wanted_none rfl) ?_
  refine (hsame x qa qb ma ca mb cb xs zs hR hl1 hl2 hs1 hs2 hn1 hn2).mono ?_
  rintro e y ⟨rfl, h⟩
  exact ⟨_, rfl, rfl, h⟩
 | 13, _ =>
  cases opat (o' := tj11o13) ho rfl
  have e12 := eval_at (dv 12 72 (by kernel_rfl) rfl rfl)
  exact inv_stay hK rfl (by simp only [execOp, tj11o13, e12]; go_simp) (wanted_none rfl)
end Go.Proofs.YtkefndfgkmdphaaGreat
