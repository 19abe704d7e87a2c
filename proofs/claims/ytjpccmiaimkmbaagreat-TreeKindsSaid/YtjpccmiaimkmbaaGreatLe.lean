/- The walk of slices.Backward at numbers: its places and numbers, from the last one on. -/
import Derived.Test.YtjpccmiaimkmbaaGreatLd
import Derived.OwnWalkIn
import Derived.TacticsInMore
import Derived.LoopNIn
import Derived.LoopIn
import Derived.Deep.RegionHeld

namespace Go.Proofs.YtjpccmiaimkmbaaGreat
open Go.RowKit Tnr Tnt

attribute [local go_sem] Oper.semAt_some

def bk (l : List Int) : Nat → List (Nat × Int)
  | 0 => []
  | k + 1 => (k, gz l k) :: bk l k
theorem bk_length (l : List Int) : ∀ k, (bk l k).length = k
  | 0 => rfl
  | k + 1 => by simp [bk, bk_length l k]
theorem bk_snd (l : List Int) : ∀ k, k ≤ l.length → (bk l k).map Prod.snd = (l.take k).reverse
  | 0, _ => by simp [bk]
  | k + 1, h => by
    show gz l k :: (bk l k).map Prod.snd = _
    rw [bk_snd l k (by omega), gz_take (by omega), List.reverse_append]; rfl
theorem SlZ.putObj {w : World} {p : Option Addr} {l : List Int} (h : SlZ w p l) {k : Nat} {o : Obj} (o' : Obj) (hk : w.heap[k]? = some o) (ho : o.isCells = false) : SlZ (w.putObj k o') p l := by
  rcases h with h | ⟨b, off, h1, h2⟩
  · exact .inl h
  · refine .inr ⟨b, off, h1, fun i hi => ?_⟩
    have hg := grownBy_putObj' w k o'
    have hr : ∀ r, some k = some r → ∃ o : Obj, w.heap[r]? = some o ∧ o.isCells = false := fun r e => by cases e; exact ⟨o, hk, ho⟩
    exact cell_kept (h2 i hi) hg hr
theorem bx_putObj {w : World} {b : Nat} {T : TypeId} {cs : Array Value} (h : Bx w b T cs) {k : Nat} {o : Obj} (o' : Obj) (hk : w.heap[k]? = some o) (ho : o.isCells = false) : Bx (w.putObj k o') b T cs :=
  h.kept (grownBy_putObj' w k o') (fun e => by
    cases e
    rw [show w.heap[b]? = _ from h] at hk; cases hk; cases ho)
def KpZ (q : Option Addr) (d : List Int) (Bs : Nat) (W W' : World) : Prop := (SlZ W q d → SlZ W' q d) ∧ ∀ T cs, Bx W Bs T cs → Bx W' Bs T cs
theorem KpZ.trans {q : Option Addr} {d : List Int} {Bs : Nat} {a b c : World} (h : KpZ q d Bs a b) (k : KpZ q d Bs b c) : KpZ q d Bs a c := ⟨fun x => k.1 (h.1 x), fun T cs hv => k.2 T cs (h.2 T cs hv)⟩
theorem kpz_b {q : Option Addr} {d : List Int} {Bs : Nat} {w : World} (W : World) (l : Nat) (o o' : Obj) (_ : w.heap.size ≤ l) (h : W.heap[l]? = some o) (hc : o.isCells = false) (_ : o.isWalk = false) : KpZ q d Bs W (W.putObj l o') :=
  ⟨fun x => x.putObj o' h hc, fun _ _ hv => bx_putObj hv o' h hc⟩
theorem bx_own {β : Type} (b : Nat) (T : TypeId) (f : β → Array Value) : Own (fun s W => Bx W b T (f s)) := by
  rintro s X Y row h hg hrow
  refine Bx.kept h hg (fun e => ?_)
  obtain ⟨o, ho, hc⟩ := hrow b e.symm
  rw [show X.heap[b]? = _ from h] at ho; cases ho; cases hc

theorem back_any (q : Option Addr) (n c : Nat) (w : World) :
    Calls Tryz.prog 114 #[.slice q n c] w fun e w' => e = .returned (.func (.func 145) #[] #[.pointer (some ⟨w.heap.size, 0, none⟩)]) ∧ w' = w.alloc (.cells #[.slice q n c] 24) := by
  go_enter Tryz.func114, Tryz.ntmps114
  go_wp2
  go_ret
  exact ⟨rfl, rfl⟩

set_option maxHeartbeats 3200000 in
set_option maxRecDepth 100000 in
theorem back1_in (n l Bs : Nat) (q : Option Addr) (m cq : Nat) (d : List Int) (hm : m = d.length) (hld : d.length ≤ 1000000) (hn : 1 ≤ n) (J Jx : List (Nat × Int) → World → Prop)
    (hY : ∀ pre x W, J pre W → pre.length < m → YieldAt Fence.wide (n - 1) Tryz.prog l #[.int .i64 (x.1 : Nat), .int .i64 x.2] W fun e W' =>
      (e = .returned (.bool true) ∧ J (pre ++ [x]) W' ∧ KpZ q d Bs W W') ∨ (e = .returned (.bool false) ∧ Jx (pre ++ [x]) W'))
    (W : World) (hBs : Bx W Bs 24 #[.slice q m cq]) (hL : SlZ W q d) (h0 : J [] W) :
    CallsIn Fence.wide n Tryz.prog 145 #[.func (.yield l) #[] #[], .pointer (some ⟨Bs, 0, none⟩)] W fun e W' => (∃ v, e = .returned v) ∧
      ((∃ ys, ys = bk d m ∧ J ys W') ∨ (∃ pre, pre <+: bk d m ∧ Jx pre W')) := by
  have hmI : (m : Int) ≤ 1000000 := by omega
  have HM := Lib.hid hm
  have HL := Lib.hid hL
  have HBS := Lib.hid hBs
  have HY := Lib.hid hY
  have H0 := Lib.hid h0
  have hc : W.cell? ⟨Bs, 0, none⟩ = some (.slice q m cq) := hBs.cell rfl
  clear hm hL hY h0 hBs hld
  refine callsIn_of_wp Tryz.func145 rfl trivial ?_ rfl
  simp only [Tryz.ntmps145, List.size_toArray, List.length_cons, List.length_nil, Nat.reduceAdd, Nat.reduceSub, Array.replicate_succ, Array.replicate_zero, List.push_toArray, List.append_toArray, List.nil_append, List.cons_append]
  gi_wp2
  gi_loopw [3] (fun iv wr => ∃ (k : Nat) (pre : List (Nat × Int)), k ≤ m ∧ iv = .int .i64 ((k : Nat) - 1) ∧ Hid (pre ++ bk d k = bk d m) ∧ Hid (J pre wr) ∧ Hid (KpZ q d Bs W wr)) (fun iv _ => (intOf iv + 1).toNat)
  case atStart => exact ⟨m, [], Nat.le_refl _, rfl, rfl, H0.out, ⟨fun h => h, fun _ _ h => h⟩⟩
  case round =>
    obtain ⟨k, pre, hk, rfl, HE, HJP, HK⟩ := hrel
    rename World => wr
    have hbx := HK.out.2 _ _ HBS.out
    have hbc : wr.cell? ⟨Bs, 0, none⟩ = some (.slice q m cq) := hbx.cell rfl
    clear hbx hc
    cases k with
    | succ j =>
      have e1 : (((j + 1 : Nat) : Int) - 1) = (j : Nat) := by omega
      rw [e1]
      have hjd : j < d.length := by have := HM.out; omega
      obtain ⟨b, o, rfl, hc1⟩ := slz_at (HK.out.1 HL.out) hjd
      have hjI : (j : Int) < m := by omega
      have hE2 : (pre ++ [(j, gz d j)]) ++ bk d j = bk d m := by rw [List.append_assoc]; exact HE.out
      have hlen : pre.length < m := by
        have := congrArg List.length HE.out
        rw [List.length_append, bk_length, bk_length] at this
        omega
      have HE2 := Lib.hid hE2
      obtain ⟨fn, tmps, assign, body, hy, hR⟩ := HY.out pre (j, gz d j) wr HJP.out hlen
      dsimp only at hy
      have HJ := Lib.hid hk
      clear hE2 hlen HE HJP hk e1
      gi_wp2
      refine hR.mono ?_
      rintro e W3 (⟨rfl, hJ3, hk3⟩ | ⟨rfl, hJx3⟩)
      · gi_wp2
        go_roundw
        case rel => exact ⟨j, pre ++ [(j, gz d j)], by have := HJ.out; omega, by go_num, HE2.out, hJ3, HK.out.trans hk3⟩
        case measure => simp [intOf]
      · gi_wp2
        refine bodyPost_ret (results_none rfl _ _ _) rfl ?_
        exact ⟨⟨_, rfl⟩, .inr ⟨pre ++ [(j, gz d j)], ⟨_, HE2.out⟩, hJx3⟩⟩
    | zero =>
      have e1 : (((0 : Nat) : Int) - 1) = -1 := by omega
      rw [e1]
      gi_wp2
      go_end0
      have e2 := HE.out
      exact ⟨⟨_, rfl⟩, .inl ⟨pre, by rw [← e2]; simp [bk], HJP.out⟩⟩
theorem back_stops (n Bs : Nat) (q : Option Addr) (m cq : Nat) (d : List Int) (hm : m = d.length) (hld : d.length ≤ 1000000) (hn : 1 ≤ n) (w : World) (hBs : Bx w Bs 24 #[.slice q m cq]) (hL : SlZ w q d) :
    SeqStopsK Fence.wide n Tryz.prog 145 #[.pointer (some ⟨Bs, 0, none⟩)] (fun x : Nat × Int => #[.int .i64 (x.1 : Nat), .int .i64 x.2]) (KpZ q d Bs) (fun ys => ys = bk d m) (fun pre => pre <+: bk d m) m w :=
  fun l J Jx W hW _ _ hY h0 => back1_in n l Bs q m cq d hm hld hn J Jx hY W (hBs.below hW) (hL.below hW) h0
end Go.Proofs.YtjpccmiaimkmbaaGreat
