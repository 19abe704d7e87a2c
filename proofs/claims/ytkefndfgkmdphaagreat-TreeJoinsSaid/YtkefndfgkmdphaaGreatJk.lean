import Derived.Test.YtkefndfgkmdphaaGreatFi
import Derived.Lib.Hide
import Derived.WalkKit
import Derived.WalkSpells
import Derived.RegionTactic
import Derived.Deep.QuietTactic
import Derived.BigQuiet
import Derived.Deep.RegionWith
import Derived.Test.YtkefndfgkmdphaaGreatJj
import Derived.Test.YtkefndfgkmdphaaGreatLo
import Derived.OneCell
import Derived.Laws.IdiomStrings

namespace Go.Proofs.YtkefndfgkmdphaaGreat
open Go.RowKit

structure Bxd (p : Prop) : Prop where
 out : p
theorem q_want {P : Program} {ops : Array Oper} {C : World → Prop} {Q : Act → Prop} {a : Act} {o : Oper} {rest : List Oper} (hw : Region.wanted o (yielded ops a.tmps) = true) (h : ∀ K : Act → Prop, (∀ a, Bxd (wpQuiet P ops C Q rest a) → K a) → o.quiet P a C K) : Bxd (wpQuiet P ops C Q (o :: rest) a) :=
 ⟨BigFrame.wpQuiet_want hw fun K hK => h K fun a x => hK a x.out⟩
theorem q_skip {P : Program} {ops : Array Oper} {C : World → Prop} {Q : Act → Prop} {a : Act} {o : Oper} {rest : List Oper} (hw : Region.wanted o (yielded ops a.tmps) = false) (h : Bxd (wpQuiet P ops C Q rest (a.put o.dst undef))) : Bxd (wpQuiet P ops C Q (o :: rest) a) :=
 ⟨BigFrame.wpQuiet_skip hw h.out⟩
theorem qw {P : Program} {ops : Array Oper} {C : World → Prop} {Q : Act → Prop} {a : Act} {o : Oper} {rest : List Oper} {u : Value} (h : Bxd (wpQuiet P ops C Q rest (a.put o.dst u))) (hw : Region.wanted o (yielded ops a.tmps) = true := by kernel_rfl)
  (hy : ∀ V, C V → o.quietAt P a C V u := by intro V hV; unfold Oper.quietAt; (try dsimp only at hV); go_simp; try with_reducible rfl) : Bxd (wpQuiet P ops C Q (o :: rest) a) := q_want hw fun _ hK => ⟨u, hy, hK _ h⟩
def KpB (C : World → Prop) : Prop := ∀ V w6 : World, C V → Below V.heap.size V w6 → C w6
def KpA (w : World) (C : World → Prop) : Prop := ∀ V, Below w.drew.heap.size w.drew V → C V
theorem quiet_kp {P : Program} {id : Nat} {ops : Array Oper} {Q : Exit → Act → World → Prop} {C : World → Prop} {a : Act} {w : World} (_ : Hid (KpB C)) (hC : C w.drew) (hm : P.follows .mixedOrders = true) (hq : Region.lexB .any ops = true) (h : Bxd (wpQuiet P ops C (fun a => ∀ w, C w → Q .normal a w) ops.toList a)) : (Code.region id ops true).wp P Q a w := wp_region_quiet hm hq hC h.out
theorem quiet_ka {P : Program} {id : Nat} {ops : Array Oper} {Q : Exit → Act → World → Prop} {C : World → Prop} {a : Act} {w : World} (hC : Hid (KpA w C)) (hm : P.follows .mixedOrders = true) (hq : Region.lexB .any ops = true) (h : Bxd (wpQuiet P ops C (fun a => ∀ w, C w → Q .normal a w) ops.toList a)) : (Code.region id ops true).wp P Q a w := wp_region_quiet hm hq (hC.out _ (Below.refl _ _)) h.out
end Go.Proofs.YtkefndfgkmdphaaGreat


namespace Go.Proofs.YtkefndfgkmdphaaGreat
set_option maxHeartbeats 6400000
set_option maxRecDepth 100000
open Go.RowKit Tnr Tnt

def mt (i : Nat) : ByteArray := ⟨#[35, 1, 0, 0, 47, UInt8.ofNat i, 0, 0]⟩
theorem conv_mt (w : World) (i : Nat) (hi : i ≤ 11) :
  (convert 162 9 (.slice (some ⟨w.heap.size, 0, none⟩) 8 8)).run Tryz.prog (w.alloc (.cells #[.int .u8 35, .int .u8 1, .int .u8 0, .int .u8 0, .int .u8 47, .int .u8 (i : Nat), .int .u8 0, .int .u8 0] 5)) = .ok (.string (mt i)) (w.alloc (.cells #[.int .u8 35, .int .u8 1, .int .u8 0, .int .u8 0, .int .u8 47, .int .u8 (i : Nat), .int .u8 0, .int .u8 0] 5)) := by
 have hu : ((UInt8.ofNat i).toNat : Int) = (i : Nat) := by
  rw [UInt8.toNat_ofNat']; omega
 have h := run_convert_bytes_back (P := Tryz.prog) (w.alloc (.cells #[.int .u8 35, .int .u8 1, .int .u8 0, .int .u8 0, .int .u8 47, .int .u8 (i : Nat), .int .u8 0, .int .u8 0] 5)) 162 9 5 ⟨w.heap.size, 0, none⟩ 8 [35, 1, 0, 0, 47, UInt8.ofNat i, 0, 0] Tryz.underlying162 Tryz.underlying5 Tryz.underlying9 (fun j hj => by
  have e2 : (⟨w.heap.size, 0, none⟩ : Addr).add j = ⟨w.heap.size, j, none⟩ := by simp [Addr.add]; exact Eq.symm
  rw [e2, World.cell?_alloc_at _ _ _ _ rfl]
  match j, hj with
  | 0, _ => rfl
  | 1, _ => rfl
  | 2, _ => rfl
  | 3, _ => rfl
  | 4, _ => rfl
  | 5, _ => show some _ = some (Value.int .u8 ((UInt8.ofNat i).toNat : Int)); rw [hu]; rfl
  | 6, _ => rfl
  | 7, _ => rfl)
 exact h
theorem markText_any (i : Nat) (w : World) (hi : i ≤ 11) : Calls Tryz.prog 74 #[.int .i64 1, .int .i64 (i : Nat)] w fun e w' => e = .returned (.string (mt i)) ∧ Below w.heap.size w w' := by
 have hiI : (i : Int) ≤ 11 := by omega
 have e1 : (i : Int) / 256 = 0 := by omega
 have e2 : (i : Int) / 65536 = 0 := by omega
 have HC := conv_mt w i hi
 go_enter Tryz.func74, Tryz.ntmps74
 go_wp2
 try rw [e1, e2, HC]
 go_wp2
 go_ret
 exact ⟨rfl, bl_alloc _ _⟩
def marksX (k : Nat) : List ByteArray := (List.range k).map mt
theorem marksX_succ (k : Nat) : marksX (k + 1) = marksX k ++ [mt k] := by unfold marksX; rw [List.range_succ, List.map_append]; rfl
theorem marksX_length (k : Nat) : (marksX k).length = k := by simp [marksX]
def OwnX (w : World) (B : Nat) (v : Value) (l : List ByteArray) : Prop := w.ownsRow B 9 1 v l.length (l.map Value.string)
theorem ownX_below {w w' : World} {B : Nat} {v : Value} {l : List ByteArray} (h : OwnX w B v l) (hb : Below w.heap.size w w') : OwnX w' B v l := row_below h hb
theorem ownX_down {w : World} {B B' : Nat} {v : Value} {l : List ByteArray} (h : OwnX w B v l) (hB : B' ≤ B) : OwnX w B' v l := World.ownsRow.mono h hB
theorem ownX_form {w : World} {B : Nat} {v : Value} {l : List ByteArray} (h : OwnX w B v l) : ∃ p c, v = .slice p l.length c ∧ l.length ≤ c ∧ c ≤ 9223372036854775807 ∧ (l ≠ [] → ∃ g, p = some ⟨g, 0, none⟩ ∧ B ≤ g) := by
 rcases h.2 with ⟨rfl, hn⟩ | ⟨g, cap, cur, rfl, hb, hg, hnc, hcm, hcs, htake⟩
 ·have hl : l = [] := List.eq_nil_of_length_eq_zero hn
  subst hl
  exact ⟨none, 0, rfl, by simp, by omega, fun h => absurd rfl h⟩
 ·exact ⟨_, _, rfl, hnc, by simpa [maxLen] using hcm, fun _ => ⟨g, rfl, hb⟩⟩
theorem ownX_cell {w : World} {B : Nat} {g n cap : Nat} {l : List ByteArray} (h : OwnX w B (.slice (some ⟨g, 0, none⟩) n cap) l) (hn : l.length = n) (i : Nat) (hi : i < n) :
  w.cell? ⟨g, i, none⟩ = some (.string (gb l i)) := by
 unfold OwnX at h
 rw [hn] at h
 rw [h.cellAt i (by omega), gb_get (by omega), List.getElem?_map, List.getElem?_eq_getElem (by omega)]; rfl
theorem gb_front {l m : List ByteArray} {i : Nat} (h : i < l.length) : gb (l ++ m) i = gb l i := by
 unfold gb; rw [List.getD_eq_getElem?_getD, List.getD_eq_getElem?_getD, List.getElem?_append_left h]
theorem gb_marks {l : List ByteArray} {k i : Nat} (h1 : l.length ≤ i) (h2 : i < l.length + k) : gb (l ++ marksX k) i = mt (i - l.length) := by
 unfold gb
 rw [List.getD_eq_getElem?_getD, List.getElem?_append_right h1]
 unfold marksX
 rw [List.getElem?_map, List.getElem?_range (by omega)]; rfl
theorem info_textz : (Tryz.prog.info? 9).map (fun i => (i.zero, i.size, i.bytes)) = some (some (.string ⟨#[]⟩), 1, 16) := by kernel_rfl
theorem slx_news {w : World} {p : Option Addr} {l : List ByteArray} (h : SlX w p l) : l.length = 0 ∨ ∃ b off, p = some ⟨b, off, none⟩ ∧ ∀ j u, (l.map Value.string)[j]? = some u → w.cell? ⟨b, off + j, none⟩ = some u := by
 rcases h with h | ⟨b, off, h1, h2⟩
 ·left; rw [h]; rfl
 ·refine .inr ⟨b, off, h1, fun j u hu => ?_⟩
  rw [List.getElem?_map] at hu
  obtain ⟨x, hx, rfl⟩ := Option.map_eq_some_iff.1 hu
  have hj := (List.getElem?_eq_some_iff.1 hx).1
  rw [h2 j hj, gb_get hj, (List.getElem?_eq_some_iff.1 hx).2]
theorem text_one {a : List ByteArray} : ∀ u ∈ a.map Value.string, Value.oneCell' u = true := by
 intro u hu
 obtain ⟨x, _, rfl⟩ := List.mem_map.1 hu
 rfl
def LentXPost (n : Nat) (l : List ByteArray) (w : World) (e : Ending) (w' : World) : Prop :=
 ∃ g cap, e = .returned (.slice (some ⟨g, 0, none⟩) n cap) ∧ n + 12 ≤ cap ∧ cap ≤ 9223372036854775807 ∧ OwnX w' w.heap.size (.slice (some ⟨g, 0, none⟩) (n + 12) cap) (l ++ marksX 12) ∧ Below w.heap.size w w'
theorem lentX_any (p : Option Addr) (cp n : Nat) (l : List ByteArray) (w : World) (hn : n = l.length) (hp : SlX w p l) (hl : l.length ≤ 3000) (hpn : p = none → cp = 0) :
  Calls Tryz.prog 59 #[.slice p n cp] w (LentXPost n l w) := by
 obtain ⟨i0, hinf, hz0, hz1, hz2⟩ := info_parts info_textz
 have hnI : (n : Int) ≤ 3000 := by omega
 have HN := lh hn
 have HP := lh hp
 have HPN := lh hpn
 have HNL := lh (show n ≤ 3000 by omega)
 clear hp hn hl hpn
 go_enter Tryz.func59, Tryz.ntmps59
 go_wp2_with (at_make; refine wpList_make_own _ rfl _ _ 32 rfl w.heap.size 9 i0 (.string ⟨#[]⟩) 1 Tryz.underlying32 hinf hz0 hz1 .i64 .i64 _ (n + 12) rfl rfl ?m1 ?m3 ?m4 ?m5 ?_)
 case m1 => push_cast; rfl
 case m3 => rw [hz2]; have := HNL.out; omega
 case m4 => have := HNL.out; simp only [maxLen]; omega
 case m5 => exact Nat.le_refl _
 intro w2 hown2 hgrow2
 have hb2 : Below w.heap.size w w2 := (Below.refl _ _).grown hgrow2 (Nat.le_refl _) (by simp)
 have ho2 : OwnX w2 w.heap.size (.slice (some ⟨w.heap.size, 0, none⟩) 0 (n + 12)) [] := hown2
 obtain ⟨v3, w3, hr1, hr2, hr3⟩ := run_joinX (Ts := 32) (ty := 32) Tryz.underlying32 hinf hz0 hz1 hz2 rfl (by decide) (by decide) hown2 (news := l.map Value.string) (m := n) (cq := cp) (q := p) (by rw [List.length_map, HN.out]; simp) (by rw [HN.out]; exact slx_news (HP.out.below hb2)) HPN.out text_one (by have := HNL.out; omega) hb2.size
 have hb3 : Below w.heap.size w w3 := hb2.grown hr3 hb2.size (fun k hk => (ho2.lt k hk).1)
 have hr4 : OwnX w3 w.heap.size v3 l := by
  unfold OwnX
  rw [← HN.out]
  simpa using hr2
 obtain ⟨q3, c3, hv3, _⟩ := ownX_form hr4
 rw [← HN.out] at hv3
 subst hv3
 have HR1 := lh hr1
 have HR2 := lh hr4
 have HB3 := lh hb3
 clear hr1 hr2 hr3 hr4 hb3 hb2 ho2 hown2 hgrow2
 go_wp2_with (at_builtin; refine wpList_append_run (by rfl) _ _ 32 rfl _ _ _ rfl rfl HR1.out ?_)
 go_loopw [3, 4] (fun tv iv wr => ∃ (k m : Nat) (M : List ByteArray) (q : Option Addr) (cq : Nat), k ≤ 12 ∧ iv = .int .i64 (k : Nat) ∧ tv = .slice q m cq ∧ Hid (M = l ++ marksX k) ∧ m = n + k ∧ Hid (M.length = m) ∧ Hid (OwnX wr w.heap.size (.slice q m cq) M) ∧ Hid (Below w.heap.size w wr)) (fun _ iv _ => 12 - (intOf iv).toNat)
 case atStart =>
  refine ⟨0, n, l, q3, c3, by omega, rfl, rfl, ?_, rfl, HN.out.symm, HR2.out, HB3.out⟩
  show l = l ++ marksX 0
  simp [marksX]
 case round =>
  obtain ⟨k, m, M, q, cq, hk, rfl, rfl, HM, hm, HML, HO, HB⟩ := hrel
  rename World => wr
  by_cases hk12 : k < 12
  ·have hkI : (k : Int) < 12 := by omega
   have HMT := lh (markText_any k wr (by omega))
   have HK := lh hk12
   have HMM := lh hm
   clear hk12 hm
   go_wp2_with fail
   refine (HMT.out).mono ?_
   rintro e w6 ⟨rfl, hb6⟩
   have HO6 := lh (ownX_below HO.out hb6)
   have HB6 := lh (HB.out.trans (hb6.mono HB.out.size))
   have HO7 := lh HO6.out
   unfold OwnX at HO7
   rw [HML.out] at HO7
   clear hb6 HMT
   go_wp2_with (at_builtin; refine wpList_append_own _ rfl _ _ 32 rfl w.heap.size 9 i0 (.string ⟨#[]⟩) 1 16 Tryz.underlying32 hinf hz0 hz1 hz2 rfl (by decide) (.slice q m cq) m _ rfl (HO7.out.alloc _) ⟨_, 0, none⟩ 1 1 [.string (mt k)] rfl rfl ?c1 ?c2 ?c3 ?c4 ?c5 ?_)
   case c1 => exact cells_one_z _ _ _
   case c2 => simp [Value.oneCell']
   case c3 => have := HMM.out; have := HNL.out; have := HK.out; simp only [maxLen]; omega
   case c4 => have := HMM.out; have := HNL.out; have := HK.out; omega
   case c5 => have := HB6.out.size; simp; omega
   intro v5 w5 hown5 hgrow5 _
   have hO5 : OwnX w5 w.heap.size v5 (M ++ [mt k]) := by
    unfold OwnX
    rw [List.length_append, List.map_append, HML.out]
    exact hown5
   have hb5 : Below w.heap.size w w5 := (HB6.out.alloc HB6.out.size _).grown hgrow5 (by have := HB6.out.size; simp; omega) (fun k hk => (HO7.out.lt k hk).1)
   obtain ⟨p', c5, hs', _⟩ := ownX_form hO5
   rw [List.length_append, HML.out] at hs'
   obtain rfl : v5 = .slice p' (m + 1) c5 := hs'
   have HO5 := lh hO5
   have HB5 := lh hb5
   have HM5 : Hid (M ++ [mt k] = l ++ marksX (k + 1)) := by
    show M ++ [mt k] = l ++ marksX (k + 1)
    rw [HM.out, marksX_succ, List.append_assoc]
   have HML5 : Hid ((M ++ [mt k]).length = m + 1) := by show _ = _; rw [List.length_append, HML.out]; rfl
   have HMM5 : Hid (m + 1 = n + (k + 1)) := by have := HMM.out; show _ = _; omega
   clear hown5 hgrow5 hO5 hb5
   generalize M ++ [mt k] = M5 at *
   go_wp2
   go_roundw
   case rel => exact ⟨k + 1, m + 1, M5, p', c5, by have := HK.out; omega, by go_num, rfl, HM5, HMM5.out, HML5, HO5, HB5⟩
   case measure => simp [intOf]; omega
  ·have hkk : k = 12 := by omega
   subst hkk
   subst hm
   obtain ⟨p', c', hs', hlc, hcm, hne⟩ := ownX_form HO.out
   rw [HML.out] at hs' hlc
   simp only [Value.slice.injEq, true_and] at hs'
   obtain ⟨rfl, rfl⟩ := hs'
   have hML := HML.out
   obtain ⟨g, rfl, hg⟩ := hne (by intro e; rw [e] at hML; simp at hML)
   have hcI : (n : Int) + 12 ≤ (cq : Int) := by omega
   have hcJ : (cq : Int) ≤ 9223372036854775807 := by omega
   have HLC := lh (show n + 12 ≤ cq by omega)
   have HCM := lh hcm
   have HO2 := lh (show OwnX wr w.heap.size (.slice (some ⟨g, 0, none⟩) (n + 12) cq) (l ++ marksX 12) by rw [← HM.out]; exact HO.out)
   clear hML hlc hcm hne hg hk12
   go_wp2
   go_ret
   exact ⟨g, cq, rfl, HLC.out, HCM.out, HO2.out, HB.out⟩
theorem lentX_sl {w : World} {B : Nat} {g n cap : Nat} {l m : List ByteArray} (h : OwnX w B (.slice (some ⟨g, 0, none⟩) n cap) (l ++ m)) (hn : (l ++ m).length = n) : SlX w (some ⟨g, 0, none⟩) l := by
 refine .inr ⟨g, 0, rfl, fun i hi => ?_⟩
 rw [Nat.zero_add, ownX_cell h hn i (by rw [List.length_append] at hn; omega), gb_front hi]
theorem cell_keepX {w w' : World} {b i : Nat} {v : Value} (h : w.cell? ⟨b, i, none⟩ = some v) (hb : Below w.heap.size w w') : w'.cell? ⟨b, i, none⟩ = some v := by
 rw [hb.cell (World.block_lt_of_cell? _ _ h)]; exact h
theorem keptX_any (p : Option Addr) (cp n : Nat) (l : List ByteArray) (B g cap : Nat) (w : World) (hn : n = l.length) (hp : SlX w p l) (hl : l.length ≤ 3000) (ho : OwnX w B (.slice (some ⟨g, 0, none⟩) (n + 12) cap) (l ++ marksX 12)) (hcap : n + 12 ≤ cap) (hcm : cap ≤ 9223372036854775807) :
  Calls Tryz.prog 66 #[.slice (some ⟨g, 0, none⟩) n cap, .slice p n cp] w fun e w' => e = .returned (.bool true) ∧ Below w.heap.size w w' := by
 have hnI : (n : Int) ≤ 3000 := by omega
 have hcI : (n : Int) + 12 ≤ (cap : Int) := by omega
 have hcJ : (cap : Int) ≤ 9223372036854775807 := by omega
 have HN := lh hn
 have HP := lh hp
 have HO := lh ho
 have HNN : Hid ((l ++ marksX 12).length = n + 12) := by show _ = _; rw [List.length_append, marksX_length, ← hn]
 clear hp hn hl hcap hcm ho
 go_enter Tryz.func66, Tryz.ntmps66
 go_wp2
 go_loopw [6] (fun iv wr => ∃ (k : Nat), k ≤ n + 12 ∧ iv = .int .i64 (k : Nat) ∧ Hid (Below w.heap.size w wr)) (fun iv _ => n + 12 - (intOf iv).toNat)
 case atStart => exact ⟨0, Nat.zero_le _, rfl, Below.refl _ _⟩
 case round =>
  obtain ⟨k, hk, rfl, HB⟩ := hrel
  rename World => wr
  have hbd : Below w.heap.size w wr.drew := HB.out.drew
  have HBD := lh hbd
  by_cases hkn : k < n
  ·obtain ⟨b1, o1, rfl, hc1⟩ := slx_at (HP.out.below hbd) (show k < l.length by have := HN.out; omega)
   have hc3 := ownX_cell (ownX_below HO.out hbd) HNN.out k (by omega)
   rw [gb_front (by have := HN.out; omega)] at hc3
   obtain ⟨s, hs⟩ : ∃ x, x = gb l k := ⟨_, rfl⟩
   rw [← hs] at hc1 hc3
   have hss : (s.toList == s.toList) = true := by simp
   have hkI : (k : Int) < n := by omega
   have hkJ : (k : Int) < (n : Int) + 12 := by omega
   have hge : decide ((n : Int) ≤ k) = false := by rw [decide_eq_false_iff_not]; omega
   have hlt : decide ((k : Int) < n) = true := by rw [decide_eq_true_iff]; omega
   have hltN : decide (k < n) = true := by rw [decide_eq_true_iff]; omega
   have hgeN : decide (n ≤ k) = false := by rw [decide_eq_false_iff_not]; omega
   obtain ⟨C, hC⟩ : ∃ C : World → Prop, C = fun V => Below wr.drew.heap.size wr.drew V ∧ V.cell? ⟨b1, o1 + k, none⟩ = some (.string s) ∧ V.cell? ⟨g, k, none⟩ = some (.string s) := ⟨_, rfl⟩
   have hCd : C wr.drew := by rw [hC]; exact ⟨Below.refl _ _, hc1, hc3⟩
   clear hs hkn hbd hc1 hc3
   go_wp2
   refine wp_region_quiet (C := C) (by kernel_rfl) (by kernel_rfl) hCd (Bxd.out ?_)
   clear hCd
   subst hC
   dsimp only
   iterate 22 (refine qw ?_; try simp only [Act.put, sb])
   iterate 11 (refine q_skip ((wanted_some (j := 21) (s := 44) (b := true) (c := false) rfl rfl rfl).trans rfl) ?_; (try simp only [Act.put, sb]))
   iterate 2 (refine qw ?_; try simp only [Act.put, sb])
   refine ⟨wpQuiet_nil ?_⟩
   intro w5 hV
   have HV := lh hV.1
   clear hV
   go_wp2
   go_roundw
   case rel => exact ⟨k + 1, by omega, by go_num, bl_trans HBD.out HV.out⟩
   case measure => simp [intOf] <;> omega
  ·by_cases hkm : k < n + 12
   ·have hc3 := ownX_cell (ownX_below HO.out hbd) HNN.out k (by omega)
    rw [gb_marks (by have := HN.out; omega) (by have := HN.out; omega), ← HN.out] at hc3
    obtain ⟨i, hi⟩ : ∃ i, i = k - n := ⟨_, rfl⟩
    rw [← hi] at hc3
    have hiI : (k : Int) - n = (i : Nat) := by omega
    have hss : ((mt i).toList == (mt i).toList) = true := by simp
    have hkJ : (k : Int) < (n : Int) + 12 := by omega
    have hge : decide ((n : Int) ≤ k) = true := by rw [decide_eq_true_iff]; omega
    have hlt : decide ((k : Int) < n) = false := by rw [decide_eq_false_iff_not]; omega
    have hltN : decide (k < n) = false := by rw [decide_eq_false_iff_not]; omega
    have hgeN : decide (n ≤ k) = true := by rw [decide_eq_true_iff]; omega
    have hwi : IntKind.i64.wrap (i : Int) = (i : Int) := by rw [IntKind.wrap_i64]; omega
    obtain ⟨C, hC⟩ : ∃ C : World → Prop, C = fun V => Below wr.drew.heap.size wr.drew V ∧ V.cell? ⟨g, k, none⟩ = some (.string (mt i)) := ⟨_, rfl⟩
    have hCd : C wr.drew := by rw [hC]; exact ⟨Below.refl _ _, hc3⟩
    have HMC : Hid (∀ V, C V → Calls Tryz.prog 74 #[.int .i64 1, .int .i64 (i : Nat)] V fun e w' => e = .returned (.string (mt i)) ∧ C w') := by
     intro V hV
     rw [hC] at hV ⊢
     exact (markText_any i V (by omega)).mono fun e w' ⟨h1, h2⟩ => ⟨h1, hV.1.trans (h2.mono hV.1.size), cell_keepX hV.2 h2⟩
    clear hi hkn hkm hbd hc3
    go_wp2
    refine wp_region_quiet (C := C) (by kernel_rfl) (by kernel_rfl) hCd (Bxd.out ?_)
    clear hCd
    subst hC
    dsimp only
    iterate 5 (refine qw ?_; try simp only [Act.put, sb])
    iterate 10 (refine q_skip ((wanted_some (j := 4) (s := 27) (b := true) (c := false) rfl rfl rfl).trans rfl) ?_; (try simp only [Act.put, sb]))
    iterate 15 (refine qw ?_; try simp only [Act.put, sb])
    refine q_want (by kernel_rfl) (fun K hK => ?_)
    refine ⟨.string (mt i), fun V hV => ?_, hK _ ?_⟩
    ·have HV := lh hV
     clear hV hK
     unfold Oper.quietAt
     go_simp
     exact HMC.out V HV.out
    clear hK K
    try simp only [Act.put, sb]
    iterate 4 (refine qw ?_; try simp only [Act.put, sb])
    refine ⟨wpQuiet_nil ?_⟩
    intro w5 hV
    have HV := lh hV.1
    clear hV
    go_wp2
    go_roundw
    case rel => exact ⟨k + 1, by omega, by go_num, bl_trans HBD.out HV.out⟩
    case measure => simp [intOf] <;> omega
   ·have hkJ : (n : Int) + 12 ≤ k := by omega
    go_wp2
    go_ret
    exact ⟨rfl, HB.out⟩
end Go.Proofs.YtkefndfgkmdphaaGreat

