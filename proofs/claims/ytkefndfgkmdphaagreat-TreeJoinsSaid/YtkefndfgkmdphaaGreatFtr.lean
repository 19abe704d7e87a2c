import Derived.Test.YtkefndfgkmdphaaGreatFts

namespace Go.Proofs.YtkefndfgkmdphaaGreat
set_option maxHeartbeats 6400000
set_option maxRecDepth 100000
open Go.RowKit Tnr Tnt

def ftAo0 : Oper := ⟨some 88, Op.move (.tmp 5), 46, "apart.go:768", #[], none⟩
def ftAo1 : Oper := ⟨some 89, Op.move (.tmp 9), 3, "apart.go:768", #[], none⟩
def ftAo2 : Oper := ⟨some 90, Op.indexAddr 46 (.tmp 88) (.tmp 89), 0, "apart.go:768", #[⟨0, .data⟩, ⟨1, .data⟩], none⟩
def ftAo3 : Oper := ⟨some 91, Op.load 29 (.tmp 90), 29, "apart.go:768", #[⟨2, .data⟩], none⟩
def ftAo4 : Oper := ⟨some 92, Op.move (.tmp 10), 3, "apart.go:768", #[], none⟩
def ftAo5 : Oper := ⟨some 93, Op.indexAddr 29 (.tmp 91) (.tmp 92), 0, "apart.go:768", #[⟨3, .data⟩, ⟨4, .data⟩], none⟩
def ftAo6 : Oper := ⟨some 94, Op.load 34 (.tmp 93), 34, "apart.go:768", #[⟨5, .data⟩], none⟩
def ftAo7 : Oper := ⟨some 95, Op.move (.tmp 9), 3, "apart.go:768", #[], none⟩
def ftAo8 : Oper := ⟨some 96, Op.move (.tmp 10), 3, "apart.go:768", #[], none⟩
def ftAo9 : Oper := ⟨some 97, Op.call ⟨.value (.func 34), #[.tmp 95, .tmp 96], #[3, 3]⟩, 34, "apart.go:768", #[⟨7, .data⟩, ⟨8, .data⟩], none⟩
def ftAo10 : Oper := ⟨some 98, Op.call ⟨.value (.func 41), #[.tmp 94, .tmp 97], #[34, 34]⟩, 4, "apart.go:768", #[⟨6, .data⟩, ⟨9, .data⟩, ⟨9, .chain⟩], none⟩
def ftAo11 : Oper := ⟨some 99, Op.unOp UnOp.not 4 (.tmp 98), 4, "apart.go:768", #[⟨10, .data⟩], none⟩
def ftAo12 : Oper := ⟨some 100, Op.move (.tmp 99), 4, "apart.go:768", #[⟨11, .data⟩, ⟨10, .chain⟩], none⟩
def ftAo13 : Oper := ⟨some 101, Op.move (.tmp 10), 3, "apart.go:768", #[⟨12, .guard⟩], some (12, false)⟩
def ftAo14 : Oper := ⟨some 102, Op.move (.tmp 0), 46, "apart.go:768", #[⟨12, .guard⟩], some (12, false)⟩
def ftAo15 : Oper := ⟨some 103, Op.move (.tmp 9), 3, "apart.go:768", #[⟨12, .guard⟩], some (12, false)⟩
def ftAo16 : Oper := ⟨some 104, Op.indexAddr 46 (.tmp 102) (.tmp 103), 0, "apart.go:768", #[⟨14, .data⟩, ⟨15, .data⟩, ⟨12, .guard⟩], some (12, false)⟩
def ftAo17 : Oper := ⟨some 105, Op.load 29 (.tmp 104), 29, "apart.go:768", #[⟨16, .data⟩, ⟨12, .guard⟩], some (12, false)⟩
def ftAo18 : Oper := ⟨some 106, Op.call { callee := Callee.builtin Builtin.len, args := #[.tmp 105], argTypes := #[29] }, 3, "apart.go:768", #[⟨17, .data⟩, ⟨12, .guard⟩], some (12, false)⟩
def ftAo19 : Oper := ⟨some 107, Op.binOp BinOp.lss 3 (.tmp 101) (.tmp 106) 3, 4, "apart.go:768", #[⟨13, .data⟩, ⟨18, .data⟩, ⟨12, .guard⟩], some (12, false)⟩
def ftAo20 : Oper := ⟨some 108, Op.move (.tmp 107), 4, "apart.go:768", #[⟨19, .data⟩, ⟨12, .chain⟩, ⟨12, .guard⟩], some (12, false)⟩
def ftAo21 : Oper := ⟨some 109, Op.move (.tmp 0), 46, "apart.go:768", #[⟨20, .guard⟩], some (20, true)⟩
def ftAo22 : Oper := ⟨some 110, Op.move (.tmp 9), 3, "apart.go:768", #[⟨20, .guard⟩], some (20, true)⟩
def ftAo23 : Oper := ⟨some 111, Op.indexAddr 46 (.tmp 109) (.tmp 110), 0, "apart.go:768", #[⟨21, .data⟩, ⟨22, .data⟩, ⟨20, .guard⟩], some (20, true)⟩
def ftAo24 : Oper := ⟨some 112, Op.load 29 (.tmp 111), 29, "apart.go:768", #[⟨23, .data⟩, ⟨20, .guard⟩], some (20, true)⟩
def ftAo25 : Oper := ⟨some 113, Op.move (.tmp 10), 3, "apart.go:768", #[⟨20, .guard⟩], some (20, true)⟩
def ftAo26 : Oper := ⟨some 114, Op.indexAddr 29 (.tmp 112) (.tmp 113), 0, "apart.go:768", #[⟨24, .data⟩, ⟨25, .data⟩, ⟨20, .guard⟩], some (20, true)⟩
def ftAo27 : Oper := ⟨some 115, Op.load 34 (.tmp 114), 34, "apart.go:768", #[⟨26, .data⟩, ⟨20, .guard⟩], some (20, true)⟩
def ftAo28 : Oper := ⟨some 116, Op.move (.tmp 9), 3, "apart.go:768", #[⟨20, .guard⟩], some (20, true)⟩
def ftAo29 : Oper := ⟨some 117, Op.move (.tmp 10), 3, "apart.go:768", #[⟨20, .guard⟩], some (20, true)⟩
def ftAo30 : Oper := ⟨some 118, Op.call ⟨.value (.func 34), #[.tmp 116, .tmp 117], #[3, 3]⟩, 34, "apart.go:768", #[⟨28, .data⟩, ⟨29, .data⟩, ⟨20, .chain⟩, ⟨20, .guard⟩], some (20, true)⟩
def ftAo31 : Oper := ⟨some 119, Op.call ⟨.value (.func 41), #[.tmp 115, .tmp 118], #[34, 34]⟩, 4, "apart.go:768", #[⟨27, .data⟩, ⟨30, .data⟩, ⟨30, .chain⟩, ⟨20, .guard⟩], some (20, true)⟩
def ftAo32 : Oper := ⟨some 120, Op.unOp UnOp.not 4 (.tmp 119), 4, "apart.go:768", #[⟨31, .data⟩, ⟨20, .guard⟩], some (20, true)⟩
def ftAo33 : Oper := ⟨some 121, Op.pick (.tmp 108) (.tmp 120) (.const (Value.bool false)), 4, "apart.go:768", #[⟨20, .data⟩, ⟨32, .data⟩, ⟨12, .guard⟩], some (12, false)⟩
def ftAo34 : Oper := ⟨some 122, Op.pick (.tmp 100) (.const (Value.bool true)) (.tmp 121), 4, "apart.go:768", #[⟨12, .data⟩, ⟨33, .data⟩], none⟩
def ftAOps : Array Oper := #[ftAo0, ftAo1, ftAo2, ftAo3, ftAo4, ftAo5, ftAo6, ftAo7, ftAo8, ftAo9, ftAo10, ftAo11, ftAo12, ftAo13, ftAo14, ftAo15, ftAo16, ftAo17, ftAo18, ftAo19, ftAo20, ftAo21, ftAo22, ftAo23, ftAo24, ftAo25, ftAo26, ftAo27, ftAo28, ftAo29, ftAo30, ftAo31, ftAo32, ftAo33, ftAo34]
def ftAPre : Array Bool := #[true, true, true, true, true, true, true, true, true, true, true, true, true, true, true, true, true, true, true, true, true, true, true, true, true, true, true, true, true, true, true, true, true, true, true]
def ftAK (bG bq oq ml cq jx ix b1 b2 n c c2 gD gE : Nat) (tx : ByteArray) : Nat → Kc
 | 0 => Kc.val (.slice (some ⟨bG, 0, none⟩) ml ml)
 | 1 => Kc.val (.int .i64 ((jx : Nat) : Int))
 | 2 => Kc.val (.pointer (some ⟨bG, jx, none⟩))
 | 3 => Kc.val (.slice (some ⟨b2, 0, none⟩) (n + 64) c2)
 | 4 => Kc.val (.int .i64 ((ix : Nat) : Int))
 | 5 => Kc.val (.pointer (some ⟨b2, ix * 2, none⟩))
 | 6 => Kc.val (.agg #[.slice none 0 0, .slice (some ⟨gE, 0, none⟩) 1 1])
 | 7 => Kc.val (.int .i64 ((jx : Nat) : Int))
 | 8 => Kc.val (.int .i64 ((ix : Nat) : Int))
 | 9 => Kc.mark tx
 | 10 => Kc.val (.bool true)
 | 11 => Kc.val (.bool false)
 | 12 => Kc.val (.bool false)
 | 13 => Kc.val (.int .i64 ((ix : Nat) : Int))
 | 14 => Kc.val (.slice (some ⟨bq, oq, none⟩) ml cq)
 | 15 => Kc.val (.int .i64 ((jx : Nat) : Int))
 | 16 => Kc.val (.pointer (some ⟨bq, oq + jx, none⟩))
 | 17 => Kc.val (.slice (some ⟨b1, 0, none⟩) n c)
 | 18 => Kc.val (.int .i64 ((n : Nat) : Int))
 | 19 => Kc.val (.bool true)
 | 20 => Kc.val (.bool true)
 | 21 => Kc.val (.slice (some ⟨bq, oq, none⟩) ml cq)
 | 22 => Kc.val (.int .i64 ((jx : Nat) : Int))
 | 23 => Kc.val (.pointer (some ⟨bq, oq + jx, none⟩))
 | 24 => Kc.val (.slice (some ⟨b1, 0, none⟩) n c)
 | 25 => Kc.val (.int .i64 ((ix : Nat) : Int))
 | 26 => Kc.val (.pointer (some ⟨b1, ix * 2, none⟩))
 | 27 => Kc.val (.agg #[.slice none 0 0, .slice (some ⟨gD, 0, none⟩) 1 1])
 | 28 => Kc.val (.int .i64 ((jx : Nat) : Int))
 | 29 => Kc.val (.int .i64 ((ix : Nat) : Int))
 | 30 => Kc.mark tx
 | 31 => Kc.val (.bool true)
 | 32 => Kc.val (.bool false)
 | 33 => Kc.val (.bool false)
 | 34 => Kc.val (.bool false)
 | _ => Kc.val undef
theorem ftA_slots (f : Nat → Value) : slotsOf ftAOps ftAPre f = [(88, f 0), (89, f 1), (90, f 2), (91, f 3), (92, f 4), (93, f 5), (94, f 6), (95, f 7), (96, f 8), (97, f 9), (98, f 10), (99, f 11), (100, f 12), (101, f 13), (102, f 14), (103, f 15), (104, f 16), (105, f 17), (106, f 18), (107, f 19), (108, f 20), (109, f 21), (110, f 22), (111, f 23), (112, f 24), (113, f 25), (114, f 26), (115, f 27), (116, f 28), (117, f 29), (118, f 30), (119, f 31), (120, f 32), (121, f 33), (122, f 34)] := by kernel_rfl
theorem ftA_wp {Q : Exit → Act → World → Prop} {a0 : Act} {w : World} (bG bq oq ml cq jx ix b1 b2 n c c2 gD gE : Nat) (tx : ByteArray) (hsize : a0.tmps.size = 193) (h0 : a0.tmps[0]? = some (.slice (some ⟨bq, oq, none⟩) ml cq)) (h5 : a0.tmps[5]? = some (.slice (some ⟨bG, 0, none⟩) ml ml)) (h9 : a0.tmps[9]? = some (.int .i64 ((jx : Nat) : Int))) (h10 : a0.tmps[10]? = some (.int .i64 ((ix : Nat) : Int)))
  (hj : jx < ml) (hcg : w.drew.cell? ⟨bG, jx, none⟩ = some (.slice (some ⟨b2, 0, none⟩) (n + 64) c2)) (hcq : w.drew.cell? ⟨bq, oq + jx, none⟩ = some (.slice (some ⟨b1, 0, none⟩) n c)) (hin : ix < n)
  (he0 : w.drew.cell? ⟨b2, ix * 2, none⟩ = some (.slice none 0 0)) (he1 : w.drew.cell? ⟨b2, ix * 2 + 1, none⟩ = some (.slice (some ⟨gE, 0, none⟩) 1 1)) (heg : Bx w.drew gE 9 #[.string tx])
  (hd0 : w.drew.cell? ⟨b1, ix * 2, none⟩ = some (.slice none 0 0)) (hd1 : w.drew.cell? ⟨b1, ix * 2 + 1, none⟩ = some (.slice (some ⟨gD, 0, none⟩) 1 1)) (hdg : Bx w.drew gD 9 #[.string tx])
  (hmark : ∀ V : World, Calls Tryz.prog 34 #[.int .i64 ((jx : Nat) : Int), .int .i64 ((ix : Nat) : Int)] V fun e w' => ∃ g : Nat, e = .returned (.agg #[.slice none 0 0, .slice (some ⟨g, 0, none⟩) 1 1]) ∧ Bx w' g 9 #[.string tx] ∧ Below V.heap.size V w')
  (hsame : ∀ (V : World) (g g' : Nat), Bx V g 9 #[.string tx] → Bx V g' 9 #[.string tx] → Calls Tryz.prog 41 #[.agg #[.slice none 0 0, .slice (some ⟨g, 0, none⟩) 1 1], .agg #[.slice none 0 0, .slice (some ⟨g', 0, none⟩) 1 1]] V fun e w' => e = .returned (.bool true) ∧ Below V.heap.size V w')
  (fin : ∀ (f : Nat → Value) (y : World), (∀ j, j < 35 → ftAPre.getD j false = true → (ftAK bG bq oq ml cq jx ix b1 b2 n c c2 gD gE tx j).P (f j) y) → Below w.drew.heap.size w.drew y → Q .normal (putL a0 [(88, f 0), (89, f 1), (90, f 2), (91, f 3), (92, f 4), (93, f 5), (94, f 6), (95, f 7), (96, f 8), (97, f 9), (98, f 10), (99, f 11), (100, f 12), (101, f 13), (102, f 14), (103, f 15), (104, f 16), (105, f 17), (106, f 18), (107, f 19), (108, f 20), (109, f 21), (110, f 22), (111, f 23), (112, f 24), (113, f 25), (114, f 26), (115, f 27), (116, f 28), (117, f 29), (118, f 30), (119, f 31), (120, f 32), (121, f 33), (122, f 34)]) y) (id : Nat) :
  (Code.region id ftAOps true).wp Tryz.prog Q a0 w := by
 refine wp_region_inv ftAPre (fun j => (ftAK bG bq oq ml cq jx ix b1 b2 n c c2 gD gE tx j).P) (fun x y => Below x.heap.size x y) 35 0 (by kernel_rfl) (by kernel_rfl) (by rw [hsize]; kernel_rfl) (by kernel_rfl) (by kernel_rfl) (Below.refl _ _) (fun _ _ _ h1 h2 => bl_trans h1 h2) (fun j _ _ _ h1 h2 => (ftAK bG bq oq ml cq jx ix b1 b2 n c c2 gD gE tx j).keep h1 h2) ?_ (fun f y h1 h2 => by rw [ftA_slots]; exact any_end (by kernel_rfl) (fin f y h1 h2) 0)
 intro i o ho hp f a x hR hbase hdeps K hK
 have hi : i < 35 := by
  rcases Nat.lt_or_ge i 35 with h | h
  ·exact h
  ·have : ftAOps.size ≤ i := h
   rw [Array.getElem?_eq_none this] at ho; cases ho
 have dep : ∀ j, (o.after.any fun e => Region.binds .any e && e.on == j) = true → (∀ s, slotOf ftAOps j = some s → a.tmps[s]? = some (f j)) ∧ (ftAK bG bq oq ml cq jx ix b1 b2 n c c2 gD gE tx j).P (f j) x := by
  intro j h
  obtain ⟨e, he, h2⟩ := Array.any_eq_true'.1 h
  simp only [Bool.and_eq_true, beq_iff_eq] at h2
  obtain ⟨h3, rfl⟩ := h2
  exact hdeps e he h3
 have dv : ∀ (j s : Nat) {v : Value}, (o.after.any fun e => Region.binds .any e && e.on == j) = true → slotOf ftAOps j = some s → ftAK bG bq oq ml cq jx ix b1 b2 n c c2 gD gE tx j = Kc.val v → a.tmps[s]? = some v := fun j s v h1 h2 h3 => by
  obtain ⟨t, g⟩ := dep j h1
  rw [h3] at g
  have e : f j = v := g
  rw [← e]; exact t s h2
 have bv : ∀ {s : Nat} {v : Value}, a0.tmps[s]? = some v → ((List.range ftAOps.size).all fun j => slotOf ftAOps j != some s) = true → a.tmps[s]? = some v := by
  intro s v h0 h
  rw [hbase s fun j hj _ e => ?_]; exact h0
  have h2 := (List.all_eq_true.1 h) j (List.mem_range.2 hj)
  rw [e] at h2; simp at h2
 match i, hi with
 | 0, _ =>
  cases opat (o' := ftAo0) ho rfl
  have eb5 := eval_at (bv h5 (by kernel_rfl))
  exact inv_stay hK rfl (by simp only [execOp, ftAo0, eb5]; go_simp) (wanted_none rfl)
 | 1, _ =>
  cases opat (o' := ftAo1) ho rfl
  have eb9 := eval_at (bv h9 (by kernel_rfl))
  exact inv_stay hK rfl (by simp only [execOp, ftAo1, eb9]; go_simp) (wanted_none rfl)
 | 2, _ =>
  cases opat (o' := ftAo2) ho rfl
  have e0 := eval_at (dv 0 88 (by kernel_rfl) rfl rfl)
  have e1 := eval_at (dv 1 89 (by kernel_rfl) rfl rfl)
  have hjI : ((jx : Nat) : Int) < ((ml : Nat) : Int) := by omega
  exact inv_stay hK rfl (by simp only [execOp, ftAo2, e0, e1]; go_simp) (wanted_none rfl)
 | 3, _ =>
  cases opat (o' := ftAo3) ho rfl
  have e2 := eval_at (dv 2 90 (by kernel_rfl) rfl rfl)
  have kcg := keep_cellK hR hcg
  exact inv_stay hK rfl (by simp only [execOp, ftAo3, e2]; go_simp) (wanted_none rfl)
 | 4, _ =>
  cases opat (o' := ftAo4) ho rfl
  have eb10 := eval_at (bv h10 (by kernel_rfl))
  exact inv_stay hK rfl (by simp only [execOp, ftAo4, eb10]; go_simp) (wanted_none rfl)
 | 5, _ =>
  cases opat (o' := ftAo5) ho rfl
  have e3 := eval_at (dv 3 91 (by kernel_rfl) rfl rfl)
  have e4 := eval_at (dv 4 92 (by kernel_rfl) rfl rfl)
  have hiI : ((ix : Nat) : Int) < ((n : Nat) : Int) + 64 := by omega
  exact inv_stay hK rfl (by simp only [execOp, ftAo5, e3, e4]; go_simp) (wanted_none rfl)
 | 6, _ =>
  cases opat (o' := ftAo6) ho rfl
  have e5 := eval_at (dv 5 93 (by kernel_rfl) rfl rfl)
  have khe0 := keep_cellK hR he0
  have khe1 := keep_cellK hR he1
  exact inv_stay hK rfl (by simp only [execOp, ftAo6, e5]; go_simp) (wanted_none rfl)
 | 7, _ =>
  cases opat (o' := ftAo7) ho rfl
  have eb9 := eval_at (bv h9 (by kernel_rfl))
  exact inv_stay hK rfl (by simp only [execOp, ftAo7, eb9]; go_simp) (wanted_none rfl)
 | 8, _ =>
  cases opat (o' := ftAo8) ho rfl
  have eb10 := eval_at (bv h10 (by kernel_rfl))
  exact inv_stay hK rfl (by simp only [execOp, ftAo8, eb10]; go_simp) (wanted_none rfl)
 | 9, _ =>
  cases opat (o' := ftAo9) ho rfl
  have q7 := dv 7 95 (by kernel_rfl) rfl rfl
  have q8 := dv 8 96 (by kernel_rfl) rfl rfl
  refine inv_enter 34 #[.int .i64 ((jx : Nat) : Int), .int .i64 ((ix : Nat) : Int)] hK (by simp [go_sem, ftAo9, q7, q8]) (wanted_none rfl) ?_
  refine (hmark x).mono ?_
  rintro e y ⟨g, rfl, h1, h2⟩
  exact ⟨_, rfl, ⟨g, rfl, h1⟩, h2⟩
 | 10, _ =>
  cases opat (o' := ftAo10) ho rfl
  have q6 := dv 6 94 (by kernel_rfl) rfl rfl
  obtain ⟨t9, g9⟩ := dep 9 (by kernel_rfl)
  have q9 := t9 97 (by rfl)
  have e9 := eval_at q9
  obtain ⟨gm, hm1, hm2⟩ : ∃ g : Nat, f 9 = .agg #[.slice none 0 0, .slice (some ⟨g, 0, none⟩) 1 1] ∧ Bx x g 9 #[.string tx] := g9
  rw [hm1] at q9
  refine inv_enter 41 #[.agg #[.slice none 0 0, .slice (some ⟨gE, 0, none⟩) 1 1], .agg #[.slice none 0 0, .slice (some ⟨gm, 0, none⟩) 1 1]] hK (by simp [go_sem, ftAo10, q6, q9]) (wanted_none rfl) ?_
  refine (hsame x _ _ (heg.below hR) hm2).mono ?_
  rintro e y ⟨rfl, h⟩
  exact ⟨_, rfl, rfl, h⟩
 | 11, _ =>
  cases opat (o' := ftAo11) ho rfl
  have e10 := eval_at (dv 10 98 (by kernel_rfl) rfl rfl)
  exact inv_stay hK rfl (by simp only [execOp, ftAo11, e10]; go_simp) (wanted_none rfl)
 | 12, _ =>
  cases opat (o' := ftAo12) ho rfl
  have e11 := eval_at (dv 11 99 (by kernel_rfl) rfl rfl)
  exact inv_stay hK rfl (by simp only [execOp, ftAo12, e11]; go_simp) (wanted_none rfl)
 | 13, _ =>
  cases opat (o' := ftAo13) ho rfl
  have q12 := dv 12 100 (by kernel_rfl) rfl rfl
  have eb10 := eval_at (bv h10 (by kernel_rfl))
  exact inv_stay hK rfl (by simp only [execOp, ftAo13, eb10]; go_simp) (wanted_t q12 rfl rfl)
 | 14, _ =>
  cases opat (o' := ftAo14) ho rfl
  have q12 := dv 12 100 (by kernel_rfl) rfl rfl
  have eb0 := eval_at (bv h0 (by kernel_rfl))
  exact inv_stay hK rfl (by simp only [execOp, ftAo14, eb0]; go_simp) (wanted_t q12 rfl rfl)
 | 15, _ =>
  cases opat (o' := ftAo15) ho rfl
  have q12 := dv 12 100 (by kernel_rfl) rfl rfl
  have eb9 := eval_at (bv h9 (by kernel_rfl))
  exact inv_stay hK rfl (by simp only [execOp, ftAo15, eb9]; go_simp) (wanted_t q12 rfl rfl)
 | 16, _ =>
  cases opat (o' := ftAo16) ho rfl
  have q12 := dv 12 100 (by kernel_rfl) rfl rfl
  have e14 := eval_at (dv 14 102 (by kernel_rfl) rfl rfl)
  have e15 := eval_at (dv 15 103 (by kernel_rfl) rfl rfl)
  have hjI : ((jx : Nat) : Int) < ((ml : Nat) : Int) := by omega
  exact inv_stay hK rfl (by simp only [execOp, ftAo16, e14, e15]; go_simp) (wanted_t q12 rfl rfl)
 | 17, _ =>
  cases opat (o' := ftAo17) ho rfl
  have q12 := dv 12 100 (by kernel_rfl) rfl rfl
  have e16 := eval_at (dv 16 104 (by kernel_rfl) rfl rfl)
  have kcq := keep_cellK hR hcq
  exact inv_stay hK rfl (by simp only [execOp, ftAo17, e16]; go_simp) (wanted_t q12 rfl rfl)
 | 18, _ =>
  cases opat (o' := ftAo18) ho rfl
  have q12 := dv 12 100 (by kernel_rfl) rfl rfl
  have q17 := dv 17 105 (by kernel_rfl) rfl rfl
  exact inv_stay hK rfl (by simp only [execOp, ftAo18]; go_simp) (wanted_t q12 rfl rfl)
 | 19, _ =>
  cases opat (o' := ftAo19) ho rfl
  have q12 := dv 12 100 (by kernel_rfl) rfl rfl
  have e13 := eval_at (dv 13 101 (by kernel_rfl) rfl rfl)
  have e18 := eval_at (dv 18 106 (by kernel_rfl) rfl rfl)
  have hiI : ((ix : Nat) : Int) < ((n : Nat) : Int) := by omega
  have hltD : decide (((ix : Nat) : Int) < ((n : Nat) : Int)) = true := decide_eq_true hiI
  have hltN : decide (ix < n) = true := decide_eq_true (by omega)
  exact inv_stay hK rfl (by simp only [execOp, ftAo19, e13, e18]; go_simp) (wanted_t q12 rfl rfl)
 | 20, _ =>
  cases opat (o' := ftAo20) ho rfl
  have q12 := dv 12 100 (by kernel_rfl) rfl rfl
  have e19 := eval_at (dv 19 107 (by kernel_rfl) rfl rfl)
  exact inv_stay hK rfl (by simp only [execOp, ftAo20, e19]; go_simp) (wanted_t q12 rfl rfl)
 | 21, _ =>
  cases opat (o' := ftAo21) ho rfl
  have q20 := dv 20 108 (by kernel_rfl) rfl rfl
  have eb0 := eval_at (bv h0 (by kernel_rfl))
  exact inv_stay hK rfl (by simp only [execOp, ftAo21, eb0]; go_simp) (wanted_t q20 rfl rfl)
 | 22, _ =>
  cases opat (o' := ftAo22) ho rfl
  have q20 := dv 20 108 (by kernel_rfl) rfl rfl
  have eb9 := eval_at (bv h9 (by kernel_rfl))
  exact inv_stay hK rfl (by simp only [execOp, ftAo22, eb9]; go_simp) (wanted_t q20 rfl rfl)
 | 23, _ =>
  cases opat (o' := ftAo23) ho rfl
  have q20 := dv 20 108 (by kernel_rfl) rfl rfl
  have e21 := eval_at (dv 21 109 (by kernel_rfl) rfl rfl)
  have e22 := eval_at (dv 22 110 (by kernel_rfl) rfl rfl)
  have hjI : ((jx : Nat) : Int) < ((ml : Nat) : Int) := by omega
  exact inv_stay hK rfl (by simp only [execOp, ftAo23, e21, e22]; go_simp) (wanted_t q20 rfl rfl)
 | 24, _ =>
  cases opat (o' := ftAo24) ho rfl
  have q20 := dv 20 108 (by kernel_rfl) rfl rfl
  have e23 := eval_at (dv 23 111 (by kernel_rfl) rfl rfl)
  have kcq := keep_cellK hR hcq
  exact inv_stay hK rfl (by simp only [execOp, ftAo24, e23]; go_simp) (wanted_t q20 rfl rfl)
 | 25, _ =>
  cases opat (o' := ftAo25) ho rfl
  have q20 := dv 20 108 (by kernel_rfl) rfl rfl
  have eb10 := eval_at (bv h10 (by kernel_rfl))
  exact inv_stay hK rfl (by simp only [execOp, ftAo25, eb10]; go_simp) (wanted_t q20 rfl rfl)
 | 26, _ =>
  cases opat (o' := ftAo26) ho rfl
  have q20 := dv 20 108 (by kernel_rfl) rfl rfl
  have e24 := eval_at (dv 24 112 (by kernel_rfl) rfl rfl)
  have e25 := eval_at (dv 25 113 (by kernel_rfl) rfl rfl)
  have hiI : ((ix : Nat) : Int) < ((n : Nat) : Int) := by omega
  exact inv_stay hK rfl (by simp only [execOp, ftAo26, e24, e25]; go_simp) (wanted_t q20 rfl rfl)
 | 27, _ =>
  cases opat (o' := ftAo27) ho rfl
  have q20 := dv 20 108 (by kernel_rfl) rfl rfl
  have e26 := eval_at (dv 26 114 (by kernel_rfl) rfl rfl)
  have khd0 := keep_cellK hR hd0
  have khd1 := keep_cellK hR hd1
  exact inv_stay hK rfl (by simp only [execOp, ftAo27, e26]; go_simp) (wanted_t q20 rfl rfl)
 | 28, _ =>
  cases opat (o' := ftAo28) ho rfl
  have q20 := dv 20 108 (by kernel_rfl) rfl rfl
  have eb9 := eval_at (bv h9 (by kernel_rfl))
  exact inv_stay hK rfl (by simp only [execOp, ftAo28, eb9]; go_simp) (wanted_t q20 rfl rfl)
 | 29, _ =>
  cases opat (o' := ftAo29) ho rfl
  have q20 := dv 20 108 (by kernel_rfl) rfl rfl
  have eb10 := eval_at (bv h10 (by kernel_rfl))
  exact inv_stay hK rfl (by simp only [execOp, ftAo29, eb10]; go_simp) (wanted_t q20 rfl rfl)
 | 30, _ =>
  cases opat (o' := ftAo30) ho rfl
  have q20 := dv 20 108 (by kernel_rfl) rfl rfl
  have q28 := dv 28 116 (by kernel_rfl) rfl rfl
  have q29 := dv 29 117 (by kernel_rfl) rfl rfl
  refine inv_enter 34 #[.int .i64 ((jx : Nat) : Int), .int .i64 ((ix : Nat) : Int)] hK (by simp [go_sem, ftAo30, q28, q29]) (wanted_t q20 rfl rfl) ?_
  refine (hmark x).mono ?_
  rintro e y ⟨g, rfl, h1, h2⟩
  exact ⟨_, rfl, ⟨g, rfl, h1⟩, h2⟩
 | 31, _ =>
  cases opat (o' := ftAo31) ho rfl
  have q20 := dv 20 108 (by kernel_rfl) rfl rfl
  have q27 := dv 27 115 (by kernel_rfl) rfl rfl
  obtain ⟨t30, g30⟩ := dep 30 (by kernel_rfl)
  have q30 := t30 118 (by rfl)
  have e30 := eval_at q30
  obtain ⟨gm, hm1, hm2⟩ : ∃ g : Nat, f 30 = .agg #[.slice none 0 0, .slice (some ⟨g, 0, none⟩) 1 1] ∧ Bx x g 9 #[.string tx] := g30
  rw [hm1] at q30
  refine inv_enter 41 #[.agg #[.slice none 0 0, .slice (some ⟨gD, 0, none⟩) 1 1], .agg #[.slice none 0 0, .slice (some ⟨gm, 0, none⟩) 1 1]] hK (by simp [go_sem, ftAo31, q27, q30]) (wanted_t q20 rfl rfl) ?_
  refine (hsame x _ _ (hdg.below hR) hm2).mono ?_
  rintro e y ⟨rfl, h⟩
  exact ⟨_, rfl, rfl, h⟩
 | 32, _ =>
  cases opat (o' := ftAo32) ho rfl
  have q20 := dv 20 108 (by kernel_rfl) rfl rfl
  have e31 := eval_at (dv 31 119 (by kernel_rfl) rfl rfl)
  exact inv_stay hK rfl (by simp only [execOp, ftAo32, e31]; go_simp) (wanted_t q20 rfl rfl)
 | 33, _ =>
  cases opat (o' := ftAo33) ho rfl
  have q12 := dv 12 100 (by kernel_rfl) rfl rfl
  have e20 := eval_at (dv 20 108 (by kernel_rfl) rfl rfl)
  have e32 := eval_at (dv 32 120 (by kernel_rfl) rfl rfl)
  exact inv_stay hK rfl (by simp only [execOp, ftAo33, e20, e32]; go_simp) (wanted_t q12 rfl rfl)
 | 34, _ =>
  cases opat (o' := ftAo34) ho rfl
  have e12 := eval_at (dv 12 100 (by kernel_rfl) rfl rfl)
  have e33 := eval_at (dv 33 121 (by kernel_rfl) rfl rfl)
  exact inv_stay hK rfl (by simp only [execOp, ftAo34, e12, e33]; go_simp) (wanted_none rfl)
def ftBo0 : Oper := ⟨some 88, Op.move (.tmp 5), 46, "apart.go:768", #[], none⟩
def ftBo1 : Oper := ⟨some 89, Op.move (.tmp 9), 3, "apart.go:768", #[], none⟩
def ftBo2 : Oper := ⟨some 90, Op.indexAddr 46 (.tmp 88) (.tmp 89), 0, "apart.go:768", #[⟨0, .data⟩, ⟨1, .data⟩], none⟩
def ftBo3 : Oper := ⟨some 91, Op.load 29 (.tmp 90), 29, "apart.go:768", #[⟨2, .data⟩], none⟩
def ftBo4 : Oper := ⟨some 92, Op.move (.tmp 10), 3, "apart.go:768", #[], none⟩
def ftBo5 : Oper := ⟨some 93, Op.indexAddr 29 (.tmp 91) (.tmp 92), 0, "apart.go:768", #[⟨3, .data⟩, ⟨4, .data⟩], none⟩
def ftBo6 : Oper := ⟨some 94, Op.load 34 (.tmp 93), 34, "apart.go:768", #[⟨5, .data⟩], none⟩
def ftBo7 : Oper := ⟨some 95, Op.move (.tmp 9), 3, "apart.go:768", #[], none⟩
def ftBo8 : Oper := ⟨some 96, Op.move (.tmp 10), 3, "apart.go:768", #[], none⟩
def ftBo9 : Oper := ⟨some 97, Op.call ⟨.value (.func 34), #[.tmp 95, .tmp 96], #[3, 3]⟩, 34, "apart.go:768", #[⟨7, .data⟩, ⟨8, .data⟩], none⟩
def ftBo10 : Oper := ⟨some 98, Op.call ⟨.value (.func 41), #[.tmp 94, .tmp 97], #[34, 34]⟩, 4, "apart.go:768", #[⟨6, .data⟩, ⟨9, .data⟩, ⟨9, .chain⟩], none⟩
def ftBo11 : Oper := ⟨some 99, Op.unOp UnOp.not 4 (.tmp 98), 4, "apart.go:768", #[⟨10, .data⟩], none⟩
def ftBo12 : Oper := ⟨some 100, Op.move (.tmp 99), 4, "apart.go:768", #[⟨11, .data⟩, ⟨10, .chain⟩], none⟩
def ftBo13 : Oper := ⟨some 101, Op.move (.tmp 10), 3, "apart.go:768", #[⟨12, .guard⟩], some (12, false)⟩
def ftBo14 : Oper := ⟨some 102, Op.move (.tmp 0), 46, "apart.go:768", #[⟨12, .guard⟩], some (12, false)⟩
def ftBo15 : Oper := ⟨some 103, Op.move (.tmp 9), 3, "apart.go:768", #[⟨12, .guard⟩], some (12, false)⟩
def ftBo16 : Oper := ⟨some 104, Op.indexAddr 46 (.tmp 102) (.tmp 103), 0, "apart.go:768", #[⟨14, .data⟩, ⟨15, .data⟩, ⟨12, .guard⟩], some (12, false)⟩
def ftBo17 : Oper := ⟨some 105, Op.load 29 (.tmp 104), 29, "apart.go:768", #[⟨16, .data⟩, ⟨12, .guard⟩], some (12, false)⟩
def ftBo18 : Oper := ⟨some 106, Op.call { callee := Callee.builtin Builtin.len, args := #[.tmp 105], argTypes := #[29] }, 3, "apart.go:768", #[⟨17, .data⟩, ⟨12, .guard⟩], some (12, false)⟩
def ftBo19 : Oper := ⟨some 107, Op.binOp BinOp.lss 3 (.tmp 101) (.tmp 106) 3, 4, "apart.go:768", #[⟨13, .data⟩, ⟨18, .data⟩, ⟨12, .guard⟩], some (12, false)⟩
def ftBo20 : Oper := ⟨some 108, Op.move (.tmp 107), 4, "apart.go:768", #[⟨19, .data⟩, ⟨12, .chain⟩, ⟨12, .guard⟩], some (12, false)⟩
def ftBo21 : Oper := ⟨some 109, Op.move (.tmp 0), 46, "apart.go:768", #[⟨20, .guard⟩], some (20, true)⟩
def ftBo22 : Oper := ⟨some 110, Op.move (.tmp 9), 3, "apart.go:768", #[⟨20, .guard⟩], some (20, true)⟩
def ftBo23 : Oper := ⟨some 111, Op.indexAddr 46 (.tmp 109) (.tmp 110), 0, "apart.go:768", #[⟨21, .data⟩, ⟨22, .data⟩, ⟨20, .guard⟩], some (20, true)⟩
def ftBo24 : Oper := ⟨some 112, Op.load 29 (.tmp 111), 29, "apart.go:768", #[⟨23, .data⟩, ⟨20, .guard⟩], some (20, true)⟩
def ftBo25 : Oper := ⟨some 113, Op.move (.tmp 10), 3, "apart.go:768", #[⟨20, .guard⟩], some (20, true)⟩
def ftBo26 : Oper := ⟨some 114, Op.indexAddr 29 (.tmp 112) (.tmp 113), 0, "apart.go:768", #[⟨24, .data⟩, ⟨25, .data⟩, ⟨20, .guard⟩], some (20, true)⟩
def ftBo27 : Oper := ⟨some 115, Op.load 34 (.tmp 114), 34, "apart.go:768", #[⟨26, .data⟩, ⟨20, .guard⟩], some (20, true)⟩
def ftBo28 : Oper := ⟨some 116, Op.move (.tmp 9), 3, "apart.go:768", #[⟨20, .guard⟩], some (20, true)⟩
def ftBo29 : Oper := ⟨some 117, Op.move (.tmp 10), 3, "apart.go:768", #[⟨20, .guard⟩], some (20, true)⟩
def ftBo30 : Oper := ⟨some 118, Op.call ⟨.value (.func 34), #[.tmp 116, .tmp 117], #[3, 3]⟩, 34, "apart.go:768", #[⟨28, .data⟩, ⟨29, .data⟩, ⟨20, .chain⟩, ⟨20, .guard⟩], some (20, true)⟩
def ftBo31 : Oper := ⟨some 119, Op.call ⟨.value (.func 41), #[.tmp 115, .tmp 118], #[34, 34]⟩, 4, "apart.go:768", #[⟨27, .data⟩, ⟨30, .data⟩, ⟨30, .chain⟩, ⟨20, .guard⟩], some (20, true)⟩
def ftBo32 : Oper := ⟨some 120, Op.unOp UnOp.not 4 (.tmp 119), 4, "apart.go:768", #[⟨31, .data⟩, ⟨20, .guard⟩], some (20, true)⟩
def ftBo33 : Oper := ⟨some 121, Op.pick (.tmp 108) (.tmp 120) (.const (Value.bool false)), 4, "apart.go:768", #[⟨20, .data⟩, ⟨32, .data⟩, ⟨12, .guard⟩], some (12, false)⟩
def ftBo34 : Oper := ⟨some 122, Op.pick (.tmp 100) (.const (Value.bool true)) (.tmp 121), 4, "apart.go:768", #[⟨12, .data⟩, ⟨33, .data⟩], none⟩
def ftBOps : Array Oper := #[ftBo0, ftBo1, ftBo2, ftBo3, ftBo4, ftBo5, ftBo6, ftBo7, ftBo8, ftBo9, ftBo10, ftBo11, ftBo12, ftBo13, ftBo14, ftBo15, ftBo16, ftBo17, ftBo18, ftBo19, ftBo20, ftBo21, ftBo22, ftBo23, ftBo24, ftBo25, ftBo26, ftBo27, ftBo28, ftBo29, ftBo30, ftBo31, ftBo32, ftBo33, ftBo34]
def ftBPre : Array Bool := #[true, true, true, true, true, true, true, true, true, true, true, true, true, true, true, true, true, true, true, true, true, true, true, true, true, true, true, true, true, true, true, true, true, true, true]
def ftBK (bG bq oq ml cq jx ix b2 n c c2 gE : Nat) (ad : Option Addr) (tx : ByteArray) : Nat → Kc
 | 0 => Kc.val (.slice (some ⟨bG, 0, none⟩) ml ml)
 | 1 => Kc.val (.int .i64 ((jx : Nat) : Int))
 | 2 => Kc.val (.pointer (some ⟨bG, jx, none⟩))
 | 3 => Kc.val (.slice (some ⟨b2, 0, none⟩) (n + 64) c2)
 | 4 => Kc.val (.int .i64 ((ix : Nat) : Int))
 | 5 => Kc.val (.pointer (some ⟨b2, ix * 2, none⟩))
 | 6 => Kc.val (.agg #[.slice none 0 0, .slice (some ⟨gE, 0, none⟩) 1 1])
 | 7 => Kc.val (.int .i64 ((jx : Nat) : Int))
 | 8 => Kc.val (.int .i64 ((ix : Nat) : Int))
 | 9 => Kc.mark tx
 | 10 => Kc.val (.bool true)
 | 11 => Kc.val (.bool false)
 | 12 => Kc.val (.bool false)
 | 13 => Kc.val (.int .i64 ((ix : Nat) : Int))
 | 14 => Kc.val (.slice (some ⟨bq, oq, none⟩) ml cq)
 | 15 => Kc.val (.int .i64 ((jx : Nat) : Int))
 | 16 => Kc.val (.pointer (some ⟨bq, oq + jx, none⟩))
 | 17 => Kc.val (.slice ad n c)
 | 18 => Kc.val (.int .i64 ((n : Nat) : Int))
 | 19 => Kc.val (.bool false)
 | 20 => Kc.val (.bool false)
 | 21 => Kc.val (undef)
 | 22 => Kc.val (undef)
 | 23 => Kc.val (undef)
 | 24 => Kc.val (undef)
 | 25 => Kc.val (undef)
 | 26 => Kc.val (undef)
 | 27 => Kc.val (undef)
 | 28 => Kc.val (undef)
 | 29 => Kc.val (undef)
 | 30 => Kc.val (undef)
 | 31 => Kc.val (undef)
 | 32 => Kc.val (undef)
 | 33 => Kc.val (.bool false)
 | 34 => Kc.val (.bool false)
 | _ => Kc.val undef
theorem ftB_slots (f : Nat → Value) : slotsOf ftBOps ftBPre f = [(88, f 0), (89, f 1), (90, f 2), (91, f 3), (92, f 4), (93, f 5), (94, f 6), (95, f 7), (96, f 8), (97, f 9), (98, f 10), (99, f 11), (100, f 12), (101, f 13), (102, f 14), (103, f 15), (104, f 16), (105, f 17), (106, f 18), (107, f 19), (108, f 20), (109, f 21), (110, f 22), (111, f 23), (112, f 24), (113, f 25), (114, f 26), (115, f 27), (116, f 28), (117, f 29), (118, f 30), (119, f 31), (120, f 32), (121, f 33), (122, f 34)] := by kernel_rfl
theorem ftB_wp {Q : Exit → Act → World → Prop} {a0 : Act} {w : World} (bG bq oq ml cq jx ix b2 n c c2 gE : Nat) (ad : Option Addr) (tx : ByteArray) (hsize : a0.tmps.size = 193) (h0 : a0.tmps[0]? = some (.slice (some ⟨bq, oq, none⟩) ml cq)) (h5 : a0.tmps[5]? = some (.slice (some ⟨bG, 0, none⟩) ml ml)) (h9 : a0.tmps[9]? = some (.int .i64 ((jx : Nat) : Int))) (h10 : a0.tmps[10]? = some (.int .i64 ((ix : Nat) : Int)))
  (hj : jx < ml) (hcg : w.drew.cell? ⟨bG, jx, none⟩ = some (.slice (some ⟨b2, 0, none⟩) (n + 64) c2)) (hcq : w.drew.cell? ⟨bq, oq + jx, none⟩ = some (.slice ad n c)) (hin : n ≤ ix) (hi64 : ix < n + 64)
  (he0 : w.drew.cell? ⟨b2, ix * 2, none⟩ = some (.slice none 0 0)) (he1 : w.drew.cell? ⟨b2, ix * 2 + 1, none⟩ = some (.slice (some ⟨gE, 0, none⟩) 1 1)) (heg : Bx w.drew gE 9 #[.string tx])
  (hmark : ∀ V : World, Calls Tryz.prog 34 #[.int .i64 ((jx : Nat) : Int), .int .i64 ((ix : Nat) : Int)] V fun e w' => ∃ g : Nat, e = .returned (.agg #[.slice none 0 0, .slice (some ⟨g, 0, none⟩) 1 1]) ∧ Bx w' g 9 #[.string tx] ∧ Below V.heap.size V w')
  (hsame : ∀ (V : World) (g g' : Nat), Bx V g 9 #[.string tx] → Bx V g' 9 #[.string tx] → Calls Tryz.prog 41 #[.agg #[.slice none 0 0, .slice (some ⟨g, 0, none⟩) 1 1], .agg #[.slice none 0 0, .slice (some ⟨g', 0, none⟩) 1 1]] V fun e w' => e = .returned (.bool true) ∧ Below V.heap.size V w')
  (fin : ∀ (f : Nat → Value) (y : World), (∀ j, j < 35 → ftBPre.getD j false = true → (ftBK bG bq oq ml cq jx ix b2 n c c2 gE ad tx j).P (f j) y) → Below w.drew.heap.size w.drew y → Q .normal (putL a0 [(88, f 0), (89, f 1), (90, f 2), (91, f 3), (92, f 4), (93, f 5), (94, f 6), (95, f 7), (96, f 8), (97, f 9), (98, f 10), (99, f 11), (100, f 12), (101, f 13), (102, f 14), (103, f 15), (104, f 16), (105, f 17), (106, f 18), (107, f 19), (108, f 20), (109, f 21), (110, f 22), (111, f 23), (112, f 24), (113, f 25), (114, f 26), (115, f 27), (116, f 28), (117, f 29), (118, f 30), (119, f 31), (120, f 32), (121, f 33), (122, f 34)]) y) (id : Nat) :
  (Code.region id ftBOps true).wp Tryz.prog Q a0 w := by
 refine wp_region_inv ftBPre (fun j => (ftBK bG bq oq ml cq jx ix b2 n c c2 gE ad tx j).P) (fun x y => Below x.heap.size x y) 35 0 (by kernel_rfl) (by kernel_rfl) (by rw [hsize]; kernel_rfl) (by kernel_rfl) (by kernel_rfl) (Below.refl _ _) (fun _ _ _ h1 h2 => bl_trans h1 h2) (fun j _ _ _ h1 h2 => (ftBK bG bq oq ml cq jx ix b2 n c c2 gE ad tx j).keep h1 h2) ?_ (fun f y h1 h2 => by rw [ftB_slots]; exact any_end (by kernel_rfl) (fin f y h1 h2) 0)
 intro i o ho hp f a x hR hbase hdeps K hK
 have hi : i < 35 := by
  rcases Nat.lt_or_ge i 35 with h | h
  ·exact h
  ·have : ftBOps.size ≤ i := h
   rw [Array.getElem?_eq_none this] at ho; cases ho
 have dep : ∀ j, (o.after.any fun e => Region.binds .any e && e.on == j) = true → (∀ s, slotOf ftBOps j = some s → a.tmps[s]? = some (f j)) ∧ (ftBK bG bq oq ml cq jx ix b2 n c c2 gE ad tx j).P (f j) x := by
  intro j h
  obtain ⟨e, he, h2⟩ := Array.any_eq_true'.1 h
  simp only [Bool.and_eq_true, beq_iff_eq] at h2
  obtain ⟨h3, rfl⟩ := h2
  exact hdeps e he h3
 have dv : ∀ (j s : Nat) {v : Value}, (o.after.any fun e => Region.binds .any e && e.on == j) = true → slotOf ftBOps j = some s → ftBK bG bq oq ml cq jx ix b2 n c c2 gE ad tx j = Kc.val v → a.tmps[s]? = some v := fun j s v h1 h2 h3 => by
  obtain ⟨t, g⟩ := dep j h1
  rw [h3] at g
  have e : f j = v := g
  rw [← e]; exact t s h2
 have bv : ∀ {s : Nat} {v : Value}, a0.tmps[s]? = some v → ((List.range ftBOps.size).all fun j => slotOf ftBOps j != some s) = true → a.tmps[s]? = some v := by
  intro s v h0 h
  rw [hbase s fun j hj _ e => ?_]; exact h0
  have h2 := (List.all_eq_true.1 h) j (List.mem_range.2 hj)
  rw [e] at h2; simp at h2
 match i, hi with
 | 0, _ =>
  cases opat (o' := ftBo0) ho rfl
  have eb5 := eval_at (bv h5 (by kernel_rfl))
  exact inv_stay hK rfl (by simp only [execOp, ftBo0, eb5]; go_simp) (wanted_none rfl)
 | 1, _ =>
  cases opat (o' := ftBo1) ho rfl
  have eb9 := eval_at (bv h9 (by kernel_rfl))
  exact inv_stay hK rfl (by simp only [execOp, ftBo1, eb9]; go_simp) (wanted_none rfl)
 | 2, _ =>
  cases opat (o' := ftBo2) ho rfl
  have e0 := eval_at (dv 0 88 (by kernel_rfl) rfl rfl)
  have e1 := eval_at (dv 1 89 (by kernel_rfl) rfl rfl)
  have hjI : ((jx : Nat) : Int) < ((ml : Nat) : Int) := by omega
  exact inv_stay hK rfl (by simp only [execOp, ftBo2, e0, e1]; go_simp) (wanted_none rfl)
 | 3, _ =>
  cases opat (o' := ftBo3) ho rfl
  have e2 := eval_at (dv 2 90 (by kernel_rfl) rfl rfl)
  have kcg := keep_cellK hR hcg
  exact inv_stay hK rfl (by simp only [execOp, ftBo3, e2]; go_simp) (wanted_none rfl)
 | 4, _ =>
  cases opat (o' := ftBo4) ho rfl
  have eb10 := eval_at (bv h10 (by kernel_rfl))
  exact inv_stay hK rfl (by simp only [execOp, ftBo4, eb10]; go_simp) (wanted_none rfl)
 | 5, _ =>
  cases opat (o' := ftBo5) ho rfl
  have e3 := eval_at (dv 3 91 (by kernel_rfl) rfl rfl)
  have e4 := eval_at (dv 4 92 (by kernel_rfl) rfl rfl)
  have hiI : ((ix : Nat) : Int) < ((n : Nat) : Int) + 64 := by omega
  exact inv_stay hK rfl (by simp only [execOp, ftBo5, e3, e4]; go_simp) (wanted_none rfl)
 | 6, _ =>
  cases opat (o' := ftBo6) ho rfl
  have e5 := eval_at (dv 5 93 (by kernel_rfl) rfl rfl)
  have khe0 := keep_cellK hR he0
  have khe1 := keep_cellK hR he1
  exact inv_stay hK rfl (by simp only [execOp, ftBo6, e5]; go_simp) (wanted_none rfl)
 | 7, _ =>
  cases opat (o' := ftBo7) ho rfl
  have eb9 := eval_at (bv h9 (by kernel_rfl))
  exact inv_stay hK rfl (by simp only [execOp, ftBo7, eb9]; go_simp) (wanted_none rfl)
 | 8, _ =>
  cases opat (o' := ftBo8) ho rfl
  have eb10 := eval_at (bv h10 (by kernel_rfl))
  exact inv_stay hK rfl (by simp only [execOp, ftBo8, eb10]; go_simp) (wanted_none rfl)
 | 9, _ =>
  cases opat (o' := ftBo9) ho rfl
  have q7 := dv 7 95 (by kernel_rfl) rfl rfl
  have q8 := dv 8 96 (by kernel_rfl) rfl rfl
  refine inv_enter 34 #[.int .i64 ((jx : Nat) : Int), .int .i64 ((ix : Nat) : Int)] hK (by simp [go_sem, ftBo9, q7, q8]) (wanted_none rfl) ?_
  refine (hmark x).mono ?_
  rintro e y ⟨g, rfl, h1, h2⟩
  exact ⟨_, rfl, ⟨g, rfl, h1⟩, h2⟩
 | 10, _ =>
  cases opat (o' := ftBo10) ho rfl
  have q6 := dv 6 94 (by kernel_rfl) rfl rfl
  obtain ⟨t9, g9⟩ := dep 9 (by kernel_rfl)
  have q9 := t9 97 (by rfl)
  have e9 := eval_at q9
  obtain ⟨gm, hm1, hm2⟩ : ∃ g : Nat, f 9 = .agg #[.slice none 0 0, .slice (some ⟨g, 0, none⟩) 1 1] ∧ Bx x g 9 #[.string tx] := g9
  rw [hm1] at q9
  refine inv_enter 41 #[.agg #[.slice none 0 0, .slice (some ⟨gE, 0, none⟩) 1 1], .agg #[.slice none 0 0, .slice (some ⟨gm, 0, none⟩) 1 1]] hK (by simp [go_sem, ftBo10, q6, q9]) (wanted_none rfl) ?_
  refine (hsame x _ _ (heg.below hR) hm2).mono ?_
  rintro e y ⟨rfl, h⟩
  exact ⟨_, rfl, rfl, h⟩
 | 11, _ =>
  cases opat (o' := ftBo11) ho rfl
  have e10 := eval_at (dv 10 98 (by kernel_rfl) rfl rfl)
  exact inv_stay hK rfl (by simp only [execOp, ftBo11, e10]; go_simp) (wanted_none rfl)
 | 12, _ =>
  cases opat (o' := ftBo12) ho rfl
  have e11 := eval_at (dv 11 99 (by kernel_rfl) rfl rfl)
  exact inv_stay hK rfl (by simp only [execOp, ftBo12, e11]; go_simp) (wanted_none rfl)
 | 13, _ =>
  cases opat (o' := ftBo13) ho rfl
  have q12 := dv 12 100 (by kernel_rfl) rfl rfl
  have eb10 := eval_at (bv h10 (by kernel_rfl))
  exact inv_stay hK rfl (by simp only [execOp, ftBo13, eb10]; go_simp) (wanted_t q12 rfl rfl)
 | 14, _ =>
  cases opat (o' := ftBo14) ho rfl
  have q12 := dv 12 100 (by kernel_rfl) rfl rfl
  have eb0 := eval_at (bv h0 (by kernel_rfl))
  exact inv_stay hK rfl (by simp only [execOp, ftBo14, eb0]; go_simp) (wanted_t q12 rfl rfl)
 | 15, _ =>
  cases opat (o' := ftBo15) ho rfl
  have q12 := dv 12 100 (by kernel_rfl) rfl rfl
  have eb9 := eval_at (bv h9 (by kernel_rfl))
  exact inv_stay hK rfl (by simp only [execOp, ftBo15, eb9]; go_simp) (wanted_t q12 rfl rfl)
 | 16, _ =>
  cases opat (o' := ftBo16) ho rfl
  have q12 := dv 12 100 (by kernel_rfl) rfl rfl
  have e14 := eval_at (dv 14 102 (by kernel_rfl) rfl rfl)
  have e15 := eval_at (dv 15 103 (by kernel_rfl) rfl rfl)
  have hjI : ((jx : Nat) : Int) < ((ml : Nat) : Int) := by omega
  exact inv_stay hK rfl (by simp only [execOp, ftBo16, e14, e15]; go_simp) (wanted_t q12 rfl rfl)
 | 17, _ =>
  cases opat (o' := ftBo17) ho rfl
  have q12 := dv 12 100 (by kernel_rfl) rfl rfl
  have e16 := eval_at (dv 16 104 (by kernel_rfl) rfl rfl)
  have kcq := keep_cellK hR hcq
  exact inv_stay hK rfl (by simp only [execOp, ftBo17, e16]; go_simp) (wanted_t q12 rfl rfl)
 | 18, _ =>
  cases opat (o' := ftBo18) ho rfl
  have q12 := dv 12 100 (by kernel_rfl) rfl rfl
  have q17 := dv 17 105 (by kernel_rfl) rfl rfl
  exact inv_stay hK rfl (by simp only [execOp, ftBo18]; go_simp) (wanted_t q12 rfl rfl)
 | 19, _ =>
  cases opat (o' := ftBo19) ho rfl
  have q12 := dv 12 100 (by kernel_rfl) rfl rfl
  have e13 := eval_at (dv 13 101 (by kernel_rfl) rfl rfl)
  have e18 := eval_at (dv 18 106 (by kernel_rfl) rfl rfl)
  have hiI : ((n : Nat) : Int) ≤ ((ix : Nat) : Int) := by omega
  have hltD : decide (((ix : Nat) : Int) < ((n : Nat) : Int)) = false := decide_eq_false (by omega)
  have hltN : decide (ix < n) = false := decide_eq_false (by omega)
  exact inv_stay hK rfl (by simp only [execOp, ftBo19, e13, e18]; go_simp) (wanted_t q12 rfl rfl)
 | 20, _ =>
  cases opat (o' := ftBo20) ho rfl
  have q12 := dv 12 100 (by kernel_rfl) rfl rfl
  have e19 := eval_at (dv 19 107 (by kernel_rfl) rfl rfl)
  exact inv_stay hK rfl (by simp only [execOp, ftBo20, e19]; go_simp) (wanted_t q12 rfl rfl)
 | 21, _ =>
  cases opat (o' := ftBo21) ho rfl
  have q20 := dv 20 108 (by kernel_rfl) rfl rfl
  exact inv_away hK rfl (wanted_f q20 rfl rfl)
 | 22, _ =>
  cases opat (o' := ftBo22) ho rfl
  have q20 := dv 20 108 (by kernel_rfl) rfl rfl
  exact inv_away hK rfl (wanted_f q20 rfl rfl)
 | 23, _ =>
  cases opat (o' := ftBo23) ho rfl
  have q20 := dv 20 108 (by kernel_rfl) rfl rfl
  exact inv_away hK rfl (wanted_f q20 rfl rfl)
 | 24, _ =>
  cases opat (o' := ftBo24) ho rfl
  have q20 := dv 20 108 (by kernel_rfl) rfl rfl
  exact inv_away hK rfl (wanted_f q20 rfl rfl)
 | 25, _ =>
  cases opat (o' := ftBo25) ho rfl
  have q20 := dv 20 108 (by kernel_rfl) rfl rfl
  exact inv_away hK rfl (wanted_f q20 rfl rfl)
 | 26, _ =>
  cases opat (o' := ftBo26) ho rfl
  have q20 := dv 20 108 (by kernel_rfl) rfl rfl
  exact inv_away hK rfl (wanted_f q20 rfl rfl)
 | 27, _ =>
  cases opat (o' := ftBo27) ho rfl
  have q20 := dv 20 108 (by kernel_rfl) rfl rfl
  exact inv_away hK rfl (wanted_f q20 rfl rfl)
 | 28, _ =>
  cases opat (o' := ftBo28) ho rfl
  have q20 := dv 20 108 (by kernel_rfl) rfl rfl
  exact inv_away hK rfl (wanted_f q20 rfl rfl)
 | 29, _ =>
  cases opat (o' := ftBo29) ho rfl
  have q20 := dv 20 108 (by kernel_rfl) rfl rfl
  exact inv_away hK rfl (wanted_f q20 rfl rfl)
 | 30, _ =>
  cases opat (o' := ftBo30) ho rfl
  have q20 := dv 20 108 (by kernel_rfl) rfl rfl
  exact inv_away hK rfl (wanted_f q20 rfl rfl)
 | 31, _ =>
  cases opat (o' := ftBo31) ho rfl
  have q20 := dv 20 108 (by kernel_rfl) rfl rfl
  exact inv_away hK rfl (wanted_f q20 rfl rfl)
 | 32, _ =>
  cases opat (o' := ftBo32) ho rfl
  have q20 := dv 20 108 (by kernel_rfl) rfl rfl
  exact inv_away hK rfl (wanted_f q20 rfl rfl)
 | 33, _ =>
  cases opat (o' := ftBo33) ho rfl
  have q12 := dv 12 100 (by kernel_rfl) rfl rfl
  have e20 := eval_at (dv 20 108 (by kernel_rfl) rfl rfl)
  have e32 := eval_at (dv 32 120 (by kernel_rfl) rfl rfl)
  refine inv_val (G := (ftBK bG bq oq ml cq jx ix b2 n c c2 gE ad tx 33).P) (R := fun x y => Below x.heap.size x y) (wanted_t q12 rfl rfl) (v := .bool false) (w2 := x) (by simp only [execOp, ftBo33, e20, e32]; go_simp) hK rfl (Below.refl _ _)
 | 34, _ =>
  cases opat (o' := ftBo34) ho rfl
  have e12 := eval_at (dv 12 100 (by kernel_rfl) rfl rfl)
  have e33 := eval_at (dv 33 121 (by kernel_rfl) rfl rfl)
  exact inv_stay hK rfl (by simp only [execOp, ftBo34, e12, e33]; go_simp) (wanted_none rfl)
def ftCo0 : Oper := ⟨some 167, Op.move (.tmp 0), 46, "apart.go:782", #[], none⟩
def ftCo1 : Oper := ⟨some 168, Op.move (.tmp 14), 3, "apart.go:782", #[], none⟩
def ftCo2 : Oper := ⟨some 169, Op.indexAddr 46 (.tmp 167) (.tmp 168), 0, "apart.go:782", #[⟨0, .data⟩, ⟨1, .data⟩], none⟩
def ftCo3 : Oper := ⟨some 170, Op.load 29 (.tmp 169), 29, "apart.go:782", #[⟨2, .data⟩], none⟩
def ftCo4 : Oper := ⟨some 171, Op.move (.tmp 15), 3, "apart.go:782", #[], none⟩
def ftCo5 : Oper := ⟨some 172, Op.indexAddr 29 (.tmp 170) (.tmp 171), 0, "apart.go:782", #[⟨3, .data⟩, ⟨4, .data⟩], none⟩
def ftCo6 : Oper := ⟨some 173, Op.load 34 (.tmp 172), 34, "apart.go:782", #[⟨5, .data⟩], none⟩
def ftCo7 : Oper := ⟨some 174, Op.move (.tmp 14), 3, "apart.go:782", #[], none⟩
def ftCo8 : Oper := ⟨some 175, Op.move (.tmp 15), 3, "apart.go:782", #[], none⟩
def ftCo9 : Oper := ⟨some 176, Op.call ⟨.value (.func 34), #[.tmp 174, .tmp 175], #[3, 3]⟩, 34, "apart.go:782", #[⟨7, .data⟩, ⟨8, .data⟩], none⟩
def ftCo10 : Oper := ⟨some 177, Op.call ⟨.value (.func 41), #[.tmp 173, .tmp 176], #[34, 34]⟩, 4, "apart.go:782", #[⟨6, .data⟩, ⟨9, .data⟩, ⟨9, .chain⟩], none⟩
def ftCo11 : Oper := ⟨some 178, Op.unOp UnOp.not 4 (.tmp 177), 4, "apart.go:782", #[⟨10, .data⟩], none⟩
def ftCo12 : Oper := ⟨some 179, Op.move (.tmp 178), 4, "apart.go:782", #[⟨11, .data⟩, ⟨10, .chain⟩], none⟩
def ftCo13 : Oper := ⟨some 180, Op.move (.tmp 5), 46, "apart.go:782", #[⟨12, .guard⟩], some (12, false)⟩
def ftCo14 : Oper := ⟨some 181, Op.move (.tmp 14), 3, "apart.go:782", #[⟨12, .guard⟩], some (12, false)⟩
def ftCo15 : Oper := ⟨some 182, Op.indexAddr 46 (.tmp 180) (.tmp 181), 0, "apart.go:782", #[⟨13, .data⟩, ⟨14, .data⟩, ⟨12, .guard⟩], some (12, false)⟩
def ftCo16 : Oper := ⟨some 183, Op.load 29 (.tmp 182), 29, "apart.go:782", #[⟨15, .data⟩, ⟨12, .guard⟩], some (12, false)⟩
def ftCo17 : Oper := ⟨some 184, Op.move (.tmp 15), 3, "apart.go:782", #[⟨12, .guard⟩], some (12, false)⟩
def ftCo18 : Oper := ⟨some 185, Op.indexAddr 29 (.tmp 183) (.tmp 184), 0, "apart.go:782", #[⟨16, .data⟩, ⟨17, .data⟩, ⟨12, .guard⟩], some (12, false)⟩
def ftCo19 : Oper := ⟨some 186, Op.load 34 (.tmp 185), 34, "apart.go:782", #[⟨18, .data⟩, ⟨12, .guard⟩], some (12, false)⟩
def ftCo20 : Oper := ⟨some 187, Op.move (.tmp 14), 3, "apart.go:782", #[⟨12, .guard⟩], some (12, false)⟩
def ftCo21 : Oper := ⟨some 188, Op.move (.tmp 15), 3, "apart.go:782", #[⟨12, .guard⟩], some (12, false)⟩
def ftCo22 : Oper := ⟨some 189, Op.call ⟨.value (.func 34), #[.tmp 187, .tmp 188], #[3, 3]⟩, 34, "apart.go:782", #[⟨20, .data⟩, ⟨21, .data⟩, ⟨12, .chain⟩, ⟨12, .guard⟩], some (12, false)⟩
def ftCo23 : Oper := ⟨some 190, Op.call ⟨.value (.func 41), #[.tmp 186, .tmp 189], #[34, 34]⟩, 4, "apart.go:782", #[⟨19, .data⟩, ⟨22, .data⟩, ⟨22, .chain⟩, ⟨12, .guard⟩], some (12, false)⟩
def ftCo24 : Oper := ⟨some 191, Op.unOp UnOp.not 4 (.tmp 190), 4, "apart.go:782", #[⟨23, .data⟩, ⟨12, .guard⟩], some (12, false)⟩
def ftCo25 : Oper := ⟨some 192, Op.pick (.tmp 179) (.const (Value.bool true)) (.tmp 191), 4, "apart.go:782", #[⟨12, .data⟩, ⟨24, .data⟩], none⟩
def ftCOps : Array Oper := #[ftCo0, ftCo1, ftCo2, ftCo3, ftCo4, ftCo5, ftCo6, ftCo7, ftCo8, ftCo9, ftCo10, ftCo11, ftCo12, ftCo13, ftCo14, ftCo15, ftCo16, ftCo17, ftCo18, ftCo19, ftCo20, ftCo21, ftCo22, ftCo23, ftCo24, ftCo25]
def ftCPre : Array Bool := #[true, true, true, true, true, true, true, true, true, true, true, true, true, true, true, true, true, true, true, true, true, true, true, true, true, true]
def ftCK (bG bq oq ml cq jx ix b1 b2 n c c2 gD gE : Nat) (tx : ByteArray) : Nat → Kc
 | 0 => Kc.val (.slice (some ⟨bq, oq, none⟩) ml cq)
 | 1 => Kc.val (.int .i64 ((jx : Nat) : Int))
 | 2 => Kc.val (.pointer (some ⟨bq, oq + jx, none⟩))
 | 3 => Kc.val (.slice (some ⟨b1, 0, none⟩) n c)
 | 4 => Kc.val (.int .i64 ((ix : Nat) : Int))
 | 5 => Kc.val (.pointer (some ⟨b1, ix * 2, none⟩))
 | 6 => Kc.val (.agg #[.slice none 0 0, .slice (some ⟨gD, 0, none⟩) 1 1])
 | 7 => Kc.val (.int .i64 ((jx : Nat) : Int))
 | 8 => Kc.val (.int .i64 ((ix : Nat) : Int))
 | 9 => Kc.mark tx
 | 10 => Kc.val (.bool true)
 | 11 => Kc.val (.bool false)
 | 12 => Kc.val (.bool false)
 | 13 => Kc.val (.slice (some ⟨bG, 0, none⟩) ml ml)
 | 14 => Kc.val (.int .i64 ((jx : Nat) : Int))
 | 15 => Kc.val (.pointer (some ⟨bG, jx, none⟩))
 | 16 => Kc.val (.slice (some ⟨b2, 0, none⟩) (n + 64) c2)
 | 17 => Kc.val (.int .i64 ((ix : Nat) : Int))
 | 18 => Kc.val (.pointer (some ⟨b2, ix * 2, none⟩))
 | 19 => Kc.val (.agg #[.slice none 0 0, .slice (some ⟨gE, 0, none⟩) 1 1])
 | 20 => Kc.val (.int .i64 ((jx : Nat) : Int))
 | 21 => Kc.val (.int .i64 ((ix : Nat) : Int))
 | 22 => Kc.mark tx
 | 23 => Kc.val (.bool true)
 | 24 => Kc.val (.bool false)
 | 25 => Kc.val (.bool false)
 | _ => Kc.val undef
theorem ftC_slots (f : Nat → Value) : slotsOf ftCOps ftCPre f = [(167, f 0), (168, f 1), (169, f 2), (170, f 3), (171, f 4), (172, f 5), (173, f 6), (174, f 7), (175, f 8), (176, f 9), (177, f 10), (178, f 11), (179, f 12), (180, f 13), (181, f 14), (182, f 15), (183, f 16), (184, f 17), (185, f 18), (186, f 19), (187, f 20), (188, f 21), (189, f 22), (190, f 23), (191, f 24), (192, f 25)] := by kernel_rfl
theorem ftC_wp {Q : Exit → Act → World → Prop} {a0 : Act} {w : World} (bG bq oq ml cq jx ix b1 b2 n c c2 gD gE : Nat) (tx : ByteArray) (hsize : a0.tmps.size = 193) (h0 : a0.tmps[0]? = some (.slice (some ⟨bq, oq, none⟩) ml cq)) (h5 : a0.tmps[5]? = some (.slice (some ⟨bG, 0, none⟩) ml ml)) (h14 : a0.tmps[14]? = some (.int .i64 ((jx : Nat) : Int))) (h15 : a0.tmps[15]? = some (.int .i64 ((ix : Nat) : Int)))
  (hj : jx < ml) (hcg : w.drew.cell? ⟨bG, jx, none⟩ = some (.slice (some ⟨b2, 0, none⟩) (n + 64) c2)) (hcq : w.drew.cell? ⟨bq, oq + jx, none⟩ = some (.slice (some ⟨b1, 0, none⟩) n c)) (hin : ix < n)
  (he0 : w.drew.cell? ⟨b2, ix * 2, none⟩ = some (.slice none 0 0)) (he1 : w.drew.cell? ⟨b2, ix * 2 + 1, none⟩ = some (.slice (some ⟨gE, 0, none⟩) 1 1)) (heg : Bx w.drew gE 9 #[.string tx])
  (hd0 : w.drew.cell? ⟨b1, ix * 2, none⟩ = some (.slice none 0 0)) (hd1 : w.drew.cell? ⟨b1, ix * 2 + 1, none⟩ = some (.slice (some ⟨gD, 0, none⟩) 1 1)) (hdg : Bx w.drew gD 9 #[.string tx])
  (hmark : ∀ V : World, Calls Tryz.prog 34 #[.int .i64 ((jx : Nat) : Int), .int .i64 ((ix : Nat) : Int)] V fun e w' => ∃ g : Nat, e = .returned (.agg #[.slice none 0 0, .slice (some ⟨g, 0, none⟩) 1 1]) ∧ Bx w' g 9 #[.string tx] ∧ Below V.heap.size V w')
  (hsame : ∀ (V : World) (g g' : Nat), Bx V g 9 #[.string tx] → Bx V g' 9 #[.string tx] → Calls Tryz.prog 41 #[.agg #[.slice none 0 0, .slice (some ⟨g, 0, none⟩) 1 1], .agg #[.slice none 0 0, .slice (some ⟨g', 0, none⟩) 1 1]] V fun e w' => e = .returned (.bool true) ∧ Below V.heap.size V w')
  (fin : ∀ (f : Nat → Value) (y : World), (∀ j, j < 26 → ftCPre.getD j false = true → (ftCK bG bq oq ml cq jx ix b1 b2 n c c2 gD gE tx j).P (f j) y) → Below w.drew.heap.size w.drew y → Q .normal (putL a0 [(167, f 0), (168, f 1), (169, f 2), (170, f 3), (171, f 4), (172, f 5), (173, f 6), (174, f 7), (175, f 8), (176, f 9), (177, f 10), (178, f 11), (179, f 12), (180, f 13), (181, f 14), (182, f 15), (183, f 16), (184, f 17), (185, f 18), (186, f 19), (187, f 20), (188, f 21), (189, f 22), (190, f 23), (191, f 24), (192, f 25)]) y) (id : Nat) :
  (Code.region id ftCOps true).wp Tryz.prog Q a0 w := by
 refine wp_region_inv ftCPre (fun j => (ftCK bG bq oq ml cq jx ix b1 b2 n c c2 gD gE tx j).P) (fun x y => Below x.heap.size x y) 26 0 (by kernel_rfl) (by kernel_rfl) (by rw [hsize]; kernel_rfl) (by kernel_rfl) (by kernel_rfl) (Below.refl _ _) (fun _ _ _ h1 h2 => bl_trans h1 h2) (fun j _ _ _ h1 h2 => (ftCK bG bq oq ml cq jx ix b1 b2 n c c2 gD gE tx j).keep h1 h2) ?_ (fun f y h1 h2 => by rw [ftC_slots]; exact any_end (by kernel_rfl) (fin f y h1 h2) 0)
 intro i o ho hp f a x hR hbase hdeps K hK
 have hi : i < 26 := by
  rcases Nat.lt_or_ge i 26 with h | h
  ·exact h
  ·have : ftCOps.size ≤ i := h
   rw [Array.getElem?_eq_none this] at ho; cases ho
 have dep : ∀ j, (o.after.any fun e => Region.binds .any e && e.on == j) = true → (∀ s, slotOf ftCOps j = some s → a.tmps[s]? = some (f j)) ∧ (ftCK bG bq oq ml cq jx ix b1 b2 n c c2 gD gE tx j).P (f j) x := by
  intro j h
  obtain ⟨e, he, h2⟩ := Array.any_eq_true'.1 h
  simp only [Bool.and_eq_true, beq_iff_eq] at h2
  obtain ⟨h3, rfl⟩ := h2
  exact hdeps e he h3
 have dv : ∀ (j s : Nat) {v : Value}, (o.after.any fun e => Region.binds .any e && e.on == j) = true → slotOf ftCOps j = some s → ftCK bG bq oq ml cq jx ix b1 b2 n c c2 gD gE tx j = Kc.val v → a.tmps[s]? = some v := fun j s v h1 h2 h3 => by
  obtain ⟨t, g⟩ := dep j h1
  rw [h3] at g
  have e : f j = v := g
  rw [← e]; exact t s h2
 have bv : ∀ {s : Nat} {v : Value}, a0.tmps[s]? = some v → ((List.range ftCOps.size).all fun j => slotOf ftCOps j != some s) = true → a.tmps[s]? = some v := by
  intro s v h0 h
  rw [hbase s fun j hj _ e => ?_]; exact h0
  have h2 := (List.all_eq_true.1 h) j (List.mem_range.2 hj)
  rw [e] at h2; simp at h2
 match i, hi with
 | 0, _ =>
  cases opat (o' := ftCo0) ho rfl
  have eb0 := eval_at (bv h0 (by kernel_rfl))
  exact inv_stay hK rfl (by simp only [execOp, ftCo0, eb0]; go_simp) (wanted_none rfl)
 | 1, _ =>
  cases opat (o' := ftCo1) ho rfl
  have eb14 := eval_at (bv h14 (by kernel_rfl))
  exact inv_stay hK rfl (by simp only [execOp, ftCo1, eb14]; go_simp) (wanted_none rfl)
 | 2, _ =>
  cases opat (o' := ftCo2) ho rfl
  have e0 := eval_at (dv 0 167 (by kernel_rfl) rfl rfl)
  have e1 := eval_at (dv 1 168 (by kernel_rfl) rfl rfl)
  have hjI : ((jx : Nat) : Int) < ((ml : Nat) : Int) := by omega
  exact inv_stay hK rfl (by simp only [execOp, ftCo2, e0, e1]; go_simp) (wanted_none rfl)
 | 3, _ =>
  cases opat (o' := ftCo3) ho rfl
  have e2 := eval_at (dv 2 169 (by kernel_rfl) rfl rfl)
  have kcq := keep_cellK hR hcq
  exact inv_stay hK rfl (by simp only [execOp, ftCo3, e2]; go_simp) (wanted_none rfl)
 | 4, _ =>
  cases opat (o' := ftCo4) ho rfl
  have eb15 := eval_at (bv h15 (by kernel_rfl))
  exact inv_stay hK rfl (by simp only [execOp, ftCo4, eb15]; go_simp) (wanted_none rfl)
 | 5, _ =>
  cases opat (o' := ftCo5) ho rfl
  have e3 := eval_at (dv 3 170 (by kernel_rfl) rfl rfl)
  have e4 := eval_at (dv 4 171 (by kernel_rfl) rfl rfl)
  have hiI : ((ix : Nat) : Int) < ((n : Nat) : Int) := by omega
  exact inv_stay hK rfl (by simp only [execOp, ftCo5, e3, e4]; go_simp) (wanted_none rfl)
 | 6, _ =>
  cases opat (o' := ftCo6) ho rfl
  have e5 := eval_at (dv 5 172 (by kernel_rfl) rfl rfl)
  have khd0 := keep_cellK hR hd0
  have khd1 := keep_cellK hR hd1
  exact inv_stay hK rfl (by simp only [execOp, ftCo6, e5]; go_simp) (wanted_none rfl)
 | 7, _ =>
  cases opat (o' := ftCo7) ho rfl
  have eb14 := eval_at (bv h14 (by kernel_rfl))
  exact inv_stay hK rfl (by simp only [execOp, ftCo7, eb14]; go_simp) (wanted_none rfl)
 | 8, _ =>
  cases opat (o' := ftCo8) ho rfl
  have eb15 := eval_at (bv h15 (by kernel_rfl))
  exact inv_stay hK rfl (by simp only [execOp, ftCo8, eb15]; go_simp) (wanted_none rfl)
 | 9, _ =>
  cases opat (o' := ftCo9) ho rfl
  have q7 := dv 7 174 (by kernel_rfl) rfl rfl
  have q8 := dv 8 175 (by kernel_rfl) rfl rfl
  refine inv_enter 34 #[.int .i64 ((jx : Nat) : Int), .int .i64 ((ix : Nat) : Int)] hK (by simp [go_sem, ftCo9, q7, q8]) (wanted_none rfl) ?_
  refine (hmark x).mono ?_
  rintro e y ⟨g, rfl, h1, h2⟩
  exact ⟨_, rfl, ⟨g, rfl, h1⟩, h2⟩
 | 10, _ =>
  cases opat (o' := ftCo10) ho rfl
  have q6 := dv 6 173 (by kernel_rfl) rfl rfl
  obtain ⟨t9, g9⟩ := dep 9 (by kernel_rfl)
  have q9 := t9 176 (by rfl)
  have e9 := eval_at q9
  obtain ⟨gm, hm1, hm2⟩ : ∃ g : Nat, f 9 = .agg #[.slice none 0 0, .slice (some ⟨g, 0, none⟩) 1 1] ∧ Bx x g 9 #[.string tx] := g9
  rw [hm1] at q9
  refine inv_enter 41 #[.agg #[.slice none 0 0, .slice (some ⟨gD, 0, none⟩) 1 1], .agg #[.slice none 0 0, .slice (some ⟨gm, 0, none⟩) 1 1]] hK (by simp [go_sem, ftCo10, q6, q9]) (wanted_none rfl) ?_
  refine (hsame x _ _ (hdg.below hR) hm2).mono ?_
  rintro e y ⟨rfl, h⟩
  exact ⟨_, rfl, rfl, h⟩
 | 11, _ =>
  cases opat (o' := ftCo11) ho rfl
  have e10 := eval_at (dv 10 177 (by kernel_rfl) rfl rfl)
  exact inv_stay hK rfl (by simp only [execOp, ftCo11, e10]; go_simp) (wanted_none rfl)
 | 12, _ =>
  cases opat (o' := ftCo12) ho rfl
  have e11 := eval_at (dv 11 178 (by kernel_rfl) rfl rfl)
  exact inv_stay hK rfl (by simp only [execOp, ftCo12, e11]; go_simp) (wanted_none rfl)
 | 13, _ =>
  cases opat (o' := ftCo13) ho rfl
  have q12 := dv 12 179 (by kernel_rfl) rfl rfl
  have eb5 := eval_at (bv h5 (by kernel_rfl))
  exact inv_stay hK rfl (by simp only [execOp, ftCo13, eb5]; go_simp) (wanted_t q12 rfl rfl)
 | 14, _ =>
  cases opat (o' := ftCo14) ho rfl
  have q12 := dv 12 179 (by kernel_rfl) rfl rfl
  have eb14 := eval_at (bv h14 (by kernel_rfl))
  exact inv_stay hK rfl (by simp only [execOp, ftCo14, eb14]; go_simp) (wanted_t q12 rfl rfl)
 | 15, _ =>
  cases opat (o' := ftCo15) ho rfl
  have q12 := dv 12 179 (by kernel_rfl) rfl rfl
  have e13 := eval_at (dv 13 180 (by kernel_rfl) rfl rfl)
  have e14 := eval_at (dv 14 181 (by kernel_rfl) rfl rfl)
  have hjI : ((jx : Nat) : Int) < ((ml : Nat) : Int) := by omega
  exact inv_stay hK rfl (by simp only [execOp, ftCo15, e13, e14]; go_simp) (wanted_t q12 rfl rfl)
 | 16, _ =>
  cases opat (o' := ftCo16) ho rfl
  have q12 := dv 12 179 (by kernel_rfl) rfl rfl
  have e15 := eval_at (dv 15 182 (by kernel_rfl) rfl rfl)
  have kcg := keep_cellK hR hcg
  exact inv_stay hK rfl (by simp only [execOp, ftCo16, e15]; go_simp) (wanted_t q12 rfl rfl)
 | 17, _ =>
  cases opat (o' := ftCo17) ho rfl
  have q12 := dv 12 179 (by kernel_rfl) rfl rfl
  have eb15 := eval_at (bv h15 (by kernel_rfl))
  exact inv_stay hK rfl (by simp only [execOp, ftCo17, eb15]; go_simp) (wanted_t q12 rfl rfl)
 | 18, _ =>
  cases opat (o' := ftCo18) ho rfl
  have q12 := dv 12 179 (by kernel_rfl) rfl rfl
  have e16 := eval_at (dv 16 183 (by kernel_rfl) rfl rfl)
  have e17 := eval_at (dv 17 184 (by kernel_rfl) rfl rfl)
  have hiI : ((ix : Nat) : Int) < ((n : Nat) : Int) + 64 := by omega
  exact inv_stay hK rfl (by simp only [execOp, ftCo18, e16, e17]; go_simp) (wanted_t q12 rfl rfl)
 | 19, _ =>
  cases opat (o' := ftCo19) ho rfl
  have q12 := dv 12 179 (by kernel_rfl) rfl rfl
  have e18 := eval_at (dv 18 185 (by kernel_rfl) rfl rfl)
  have khe0 := keep_cellK hR he0
  have khe1 := keep_cellK hR he1
  exact inv_stay hK rfl (by simp only [execOp, ftCo19, e18]; go_simp) (wanted_t q12 rfl rfl)
 | 20, _ =>
  cases opat (o' := ftCo20) ho rfl
  have q12 := dv 12 179 (by kernel_rfl) rfl rfl
  have eb14 := eval_at (bv h14 (by kernel_rfl))
  exact inv_stay hK rfl (by simp only [execOp, ftCo20, eb14]; go_simp) (wanted_t q12 rfl rfl)
 | 21, _ =>
  cases opat (o' := ftCo21) ho rfl
  have q12 := dv 12 179 (by kernel_rfl) rfl rfl
  have eb15 := eval_at (bv h15 (by kernel_rfl))
  exact inv_stay hK rfl (by simp only [execOp, ftCo21, eb15]; go_simp) (wanted_t q12 rfl rfl)
 | 22, _ =>
  cases opat (o' := ftCo22) ho rfl
  have q12 := dv 12 179 (by kernel_rfl) rfl rfl
  have q20 := dv 20 187 (by kernel_rfl) rfl rfl
  have q21 := dv 21 188 (by kernel_rfl) rfl rfl
  refine inv_enter 34 #[.int .i64 ((jx : Nat) : Int), .int .i64 ((ix : Nat) : Int)] hK (by simp [go_sem, ftCo22, q20, q21]) (wanted_t q12 rfl rfl) ?_
  refine (hmark x).mono ?_
  rintro e y ⟨g, rfl, h1, h2⟩
  exact ⟨_, rfl, ⟨g, rfl, h1⟩, h2⟩
 | 23, _ =>
  cases opat (o' := ftCo23) ho rfl
  have q12 := dv 12 179 (by kernel_rfl) rfl rfl
  have q19 := dv 19 186 (by kernel_rfl) rfl rfl
  obtain ⟨t22, g22⟩ := dep 22 (by kernel_rfl)
  have q22 := t22 189 (by rfl)
  have e22 := eval_at q22
  obtain ⟨gm, hm1, hm2⟩ : ∃ g : Nat, f 22 = .agg #[.slice none 0 0, .slice (some ⟨g, 0, none⟩) 1 1] ∧ Bx x g 9 #[.string tx] := g22
  rw [hm1] at q22
  refine inv_enter 41 #[.agg #[.slice none 0 0, .slice (some ⟨gE, 0, none⟩) 1 1], .agg #[.slice none 0 0, .slice (some ⟨gm, 0, none⟩) 1 1]] hK (by simp [go_sem, ftCo23, q19, q22]) (wanted_t q12 rfl rfl) ?_
  refine (hsame x _ _ (heg.below hR) hm2).mono ?_
  rintro e y ⟨rfl, h⟩
  exact ⟨_, rfl, rfl, h⟩
 | 24, _ =>
  cases opat (o' := ftCo24) ho rfl
  have q12 := dv 12 179 (by kernel_rfl) rfl rfl
  have e23 := eval_at (dv 23 190 (by kernel_rfl) rfl rfl)
  exact inv_stay hK rfl (by simp only [execOp, ftCo24, e23]; go_simp) (wanted_t q12 rfl rfl)
 | 25, _ =>
  cases opat (o' := ftCo25) ho rfl
  have e12 := eval_at (dv 12 179 (by kernel_rfl) rfl rfl)
  have e24 := eval_at (dv 24 191 (by kernel_rfl) rfl rfl)
  exact inv_stay hK rfl (by simp only [execOp, ftCo25, e12, e24]; go_simp) (wanted_none rfl)
end Go.Proofs.YtkefndfgkmdphaaGreat
