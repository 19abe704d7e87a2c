import Derived.Test.YtkefndfgkmdphaaGreatFi
import Derived.Test.YtkefndfgkmdphaaGreatLp
import Derived.Deep.Quiet
import Derived.Deep.QuietTactic

namespace Go.Proofs.YtkefndfgkmdphaaGreat
set_option maxHeartbeats 6400000
set_option maxRecDepth 100000
open Go.RowKit Tnr Tnt

attribute [local go_sem] Oper.semAt_some

theorem ev_length (ks : List Int) : ∀ (xs : List NV) (k : Nat), (ev ks k xs).length ≤ xs.length
 | [], _ => Nat.le_refl _
 | x :: xs, k => by
  have := ev_length ks xs (k + 1)
  unfold ev
  split
  ·simp only [List.length_cons]; omega
  ·simp only [List.length_cons]; omega
theorem keeps_appended {W w1 : World} {base B : Nat} {e : TypeId} {size : Nat} {v v' : Value} {k : Nat} {xs : List Value} {tmp : Obj}
  (hrow : W.ownsRow base e size v k xs) (hbase : base ≤ W.heap.size) (hgrow : (W.alloc tmp).grownBy w1 v.ownBlock) (b : Nat) (hb : b < base) (hne : b ≠ B) : (w1.setCell ⟨B, 0, none⟩ v').heap[b]? = W.heap[b]? := by
 refine (Below.heap_setCell _ _ _ b hne).trans ((hgrow.block b (by simp; omega) fun he => ?_).trans ((bl_alloc W tmp).block b (by omega)))
 rcases hrow.2 with ⟨rfl, _⟩ | ⟨g, cap, cur, rfl, hg, _, _⟩
 ·simp [Value.ownBlock] at he
 ·obtain rfl : b = g := by simpa [Value.ownBlock] using he
  omega
theorem SlU.same {W W' : World} {b off : Nat} {l : List Int} (h : SlU W (some ⟨b, off, none⟩) l) (hs : W'.heap[b]? = W.heap[b]?) : SlU W' (some ⟨b, off, none⟩) l := by
 rcases h with h | ⟨b', off', h1, h2⟩
 ·exact .inl h
 ·cases h1
  exact .inr ⟨b, off, rfl, fun i hi => (World.cell?_of_block hs).trans (h2 i hi)⟩
theorem boxed_app {W w1 : World} {n₀ base B : Nat} {t e : TypeId} {size : Nat} {v v' : Value} {k m : Nat} {xs ys : List Value} {tmp : Obj}
  (hv : Boxed W B t v) (hte : t ≠ e) (hrow : W.ownsRow base e size v k xs) (hle : n₀ ≤ base) (hbase : base ≤ W.heap.size) (hB : n₀ ≤ B)
  (hown' : w1.ownsRow base e size v' m ys) (hgrow : (W.alloc tmp).grownBy w1 v.ownBlock) :
  Boxed w1 B t v ∧ Boxed (w1.setCell ⟨B, 0, none⟩ v') B t v' ∧ (w1.setCell ⟨B, 0, none⟩ v').ownsRow base e size v' m ys ∧ KeepsOthers W (w1.setCell ⟨B, 0, none⟩ v') ∧ Below n₀ W (w1.setCell ⟨B, 0, none⟩ v') ∧ ∀ b, b < base → b ≠ B → (w1.setCell ⟨B, 0, none⟩ v').heap[b]? = W.heap[b]? := by
 obtain ⟨h1, h2, _, h4, h5⟩ := hv.appended hte (hrow.mono hle) (Nat.le_trans hle hbase) hB (hown'.mono hle) hgrow
 exact ⟨h1, h2, hown'.kept (grownBy_setCell' w1 B v') (.inr (h1.not_row hte hown').symm), h4, h5, fun b hb hne => keeps_appended hrow hbase hgrow b hb hne⟩
def mnL : List Int → Int
 | [] => 0
 | [x] => x
 | x :: y :: l => min x (mnL (y :: l))
def mxL : List Int → Int
 | [] => 0
 | [x] => x
 | x :: y :: l => max x (mxL (y :: l))
theorem mnL_spec : ∀ l : List Int, l ≠ [] → mnL l ∈ l ∧ ∀ y ∈ l, mnL l ≤ y
 | [], h => absurd rfl h
 | [x], _ => by simp [mnL]
 | x :: y :: l, _ => by
  obtain ⟨h1, h2⟩ := mnL_spec (y :: l) (by simp)
  show min x (mnL (y :: l)) ∈ _ ∧ ∀ z ∈ x :: y :: l, min x (mnL (y :: l)) ≤ z
  refine ⟨?_, fun z hz => ?_⟩
  ·by_cases h : x ≤ mnL (y :: l)
   ·rw [Int.min_eq_left h]; simp
   ·rw [Int.min_eq_right (by omega)]; exact List.mem_cons_of_mem _ h1
  ·rcases List.mem_cons.1 hz with rfl | hz
   ·omega
   ·have := h2 z hz; omega
theorem mxL_spec : ∀ l : List Int, l ≠ [] → mxL l ∈ l ∧ ∀ y ∈ l, y ≤ mxL l
 | [], h => absurd rfl h
 | [x], _ => by simp [mxL]
 | x :: y :: l, _ => by
  obtain ⟨h1, h2⟩ := mxL_spec (y :: l) (by simp)
  show max x (mxL (y :: l)) ∈ _ ∧ ∀ z ∈ x :: y :: l, z ≤ max x (mxL (y :: l))
  refine ⟨?_, fun z hz => ?_⟩
  ·by_cases h : mxL (y :: l) ≤ x
   ·rw [Int.max_eq_left h]; simp
   ·rw [Int.max_eq_right (by omega)]; exact List.mem_cons_of_mem _ h1
  ·rcases List.mem_cons.1 hz with rfl | hz
   ·omega
   ·have := h2 z hz; omega
theorem minL_any (p : Option Addr) (c n : Nat) (l : List Int) (w : World) (hn : n = l.length) (h1 : 1 ≤ n) (hp : SlZ w p l) (hl : n ≤ 1000000) :
  Calls Tryz.prog 68 #[.slice p n c] w fun e w' => e = .returned (.int .i64 (mnL l)) ∧ w = w' := by
 refine (minZ_any p c n l w hn h1 hp hl).mono ?_
 rintro e w' ⟨⟨z, rfl, h2, h3⟩, rfl⟩
 obtain ⟨h4, h5⟩ := mnL_spec l (by intro e; rw [e] at hn; simp at hn; omega)
 have := h3 _ h4
 have := h5 _ h2
 exact ⟨by rw [show z = mnL l by omega], rfl⟩
theorem maxL_any (p : Option Addr) (c n : Nat) (l : List Int) (w : World) (hn : n = l.length) (h1 : 1 ≤ n) (hp : SlZ w p l) (hl : n ≤ 1000000) :
  Calls Tryz.prog 69 #[.slice p n c] w fun e w' => e = .returned (.int .i64 (mxL l)) ∧ w = w' := by
 refine (maxZ_any p c n l w hn h1 hp hl).mono ?_
 rintro e w' ⟨⟨z, rfl, h2, h3⟩, rfl⟩
 obtain ⟨h4, h5⟩ := mxL_spec l (by intro e; rw [e] at hn; simp at hn; omega)
 have := h3 _ h4
 have := h5 _ h2
 exact ⟨by rw [show z = mxL l by omega], rfl⟩
theorem SlZ.drewn {w : World} {p : Option Addr} {l : List Int} (h : SlZ w p l) (n : Nat) : SlZ (w.drewN n) p l := by
 rcases h with h | ⟨b, off, h1, h2⟩
 ·exact .inl h
 ·exact .inr ⟨b, off, h1, fun i hi => (by simp : (w.drewN n).cell? ⟨b, off + i, none⟩ = w.cell? ⟨b, off + i, none⟩).trans (h2 i hi)⟩
def grL (xs : List NV) : List Int := (ev [5] 0 xs).map fun x => x.2.nd.group
def grI (pre : List (Nat × NV)) : List Int := pre.map fun x => x.2.nd.group
theorem grI_snoc (pre : List (Nat × NV)) (x : Nat × NV) : grI (pre ++ [x]) = grI pre ++ [x.2.nd.group] := by simp [grI]

theorem grI_snoc_map (pre : List (Nat × NV)) (x : Nat × NV) : List.map (Value.int .i64) (grI pre ++ [x.2.nd.group]) = List.map (Value.int .i64) (grI pre) ++ [Value.int .i64 x.2.nd.group] := by simp
theorem ownZ_slz {W : World} {B n c : Nat} {p : Option Addr} {l : List Int} (h : OwnZ W B (.slice p n c) l) : SlZ W p l := by
 obtain ⟨p', c', e, _, _, _, hs⟩ := ownZ_form h
 obtain rfl : p = p' := by simpa using (Value.slice.inj e).1
 exact hs

theorem groups_any (p : Option Addr) (m c : Nat) (xs : List NV) (pn : Option Addr) (nn cn : Nat) (w : World) (hm : m = xs.length) (hld : m ≤ 1000000) (hL : SlN w p xs) :
  Calls Tryz.prog 27 #[.agg #[.slice p m c, .slice pn nn cn]] w fun e w' => e = .returned (.tuple #[.int .i64 (mnL (grL xs)), .int .i64 (mxL (grL xs))]) ∧ Below w.heap.size w w' := by
 obtain ⟨i0, hinf, hz0, hz1, hz2⟩ := info_parts info_intz
 refine (callsIn_wide (n := 8)).1 ?_
 have hro : Fence.wide.round = none := rfl
 obtain ⟨b0, hb0⟩ : ∃ b, b = w.heap.size := ⟨_, rfl⟩
 obtain ⟨W3, hW3⟩ : ∃ W, W = ((w.alloc (.cells #[.slice p m c, .slice pn nn cn] 34)).alloc (.cells #[.slice none 0 0] 24)).alloc (.cells #[.int .u8 5] 22) := ⟨_, rfl⟩
 have hB3 : Below w.heap.size w W3 := by rw [hW3]; exact bl_trans (bl_trans (bl_alloc _ _) (bl_alloc _ _)) (bl_alloc _ _)
 have bG : Boxed W3 (b0 + 1) 24 (.slice none 0 0) := by
  have h := (Bx.new (w.alloc (.cells #[.slice p m c, .slice pn nn cn] 34)) 24 #[.slice none 0 0]).below (bl_alloc _ (.cells #[.int .u8 5] 22))
  rw [World.size_alloc, ← hb0] at h; rw [hW3]; exact h
 have hs3 : W3.heap.size = b0 + 1 + 1 + 1 := by rw [hW3, hb0]; simp
 have hU : SlU W3 (some ⟨b0 + 1 + 1, 0, none⟩) [5] := by
  have h := slu_new ((w.alloc (.cells #[.slice p m c, .slice pn nn cn] 34)).alloc (.cells #[.slice none 0 0] 24)) [5] 22 #[.int .u8 5] rfl
  rw [World.size_alloc, World.size_alloc, ← hb0] at h; rw [hW3]; exact h
 have HW3 := lh hW3
 have HB3 := lh hB3
 have HS3 := lh hs3
 have HG3 := lh (And.intro bG hU)
 have HB0 := lh hb0
 have HL := lh hL
 have HM := lh (And.intro hm hld)
 clear hL hm hld hW3 hB3 hs3 bG hU hb0
 refine callsIn_of_wp_marks Tryz.func27 rfl trivial ?_ hro
 simp only [Tryz.ntmps27, List.size_toArray, List.length_cons, List.length_nil, Nat.reduceAdd, Nat.reduceSub, Array.replicate_succ, Array.replicate_zero, List.push_toArray, List.append_toArray, List.nil_append, List.cons_append]
 gi_wp2_with ((refine ⟨trivial, ?_⟩; gi_at_call 67; refine (callsIn_wide.2 (each_any _ _ _ _ _ _ _)).mono ?_; rintro e w' ⟨rfl, rfl⟩))
 rw [← HW3.out, ← HB0.out]
 obtain ⟨W5, hW5⟩ : ∃ W, W = (W3.alloc (.cells #[.slice p m c] 60)).alloc (.cells #[.slice (some ⟨b0 + 1 + 1, 0, none⟩) 1 1] 154) := ⟨_, rfl⟩
 rw [← hW5]
 have hb35 : Below W3.heap.size W3 W5 := by rw [hW5]; exact bl_trans (bl_alloc _ _) (bl_alloc _ _)
 have bS : Bx W5 (b0 + 1 + 1 + 1) 60 #[.slice p m c] := by rw [hW5, ← HS3.out]; exact (Bx.new W3 _ _).below (bl_alloc _ _)
 have bK : Bx W5 (b0 + 1 + 1 + 1 + 1) 154 #[.slice (some ⟨b0 + 1 + 1, 0, none⟩) 1 1] := by
  have h := Bx.new (W3.alloc (.cells #[.slice p m c] 60)) 154 #[.slice (some ⟨b0 + 1 + 1, 0, none⟩) 1 1]
  rw [World.size_alloc, HS3.out] at h; rw [hW5]; exact h
 have hB5 : Below w.heap.size w W5 := bl_trans HB3.out hb35
 have hst := each_stops (8 - 1) (b0 + 1 + 1 + 1) (b0 + 1 + 1 + 1 + 1) p m c xs (some ⟨b0 + 1 + 1, 0, none⟩) 1 1 [5] HM.out.1 HM.out.2 rfl (by omega) (by omega) W5 bS bK (HL.out.below hB5) (HG3.out.2.below hb35)
 have bG5 : Boxed W5 (b0 + 1) 24 (.slice none 0 0) := (show Bx W3 (b0 + 1) _ #[_] from HG3.out.1).below hb35
 have HG5 := lh bG5
 have HS5 : Hid (W5.heap.size = b0 + 1 + 1 + 1 + 1 + 1) := by show _ = _; rw [hW5, World.size_alloc, World.size_alloc, HS3.out]
 have HB5 := lh hB5
 have HBK := lh bK
 have hlen := ev_length [5] xs 0
 have HML : Hid ((ev [5] 0 xs).length ≤ 1000000) := by show _ ≤ _; have := HM.out.1; have := HM.out.2; omega
 clear hW5 hb35 bS bK hB5 bG5 hlen
 refine wpIn_rangeFunc_ownH hro (by omega) (gf := 117) (lb := #[.pointer (some ⟨b0 + 1 + 1 + 1, 0, none⟩), .pointer (some ⟨b0 + 1 + 1 + 1 + 1, 0, none⟩)]) rfl trivial (enters_of Tryz.func117 (by kernel_rfl) rfl)
  hst (fun h k => h.trans k) kpn_b (Below.refl _ _) (fun _ => rfl)
  (fun pre W => (∃ r cr, Boxed W (b0 + 1) 24 (.slice r pre.length cr) ∧ OwnZ W (b0 + 1 + 1 + 1 + 1 + 1) (.slice r pre.length cr) (grI pre)) ∧ Bx W (b0 + 1 + 1 + 1 + 1) 154 #[.slice (some ⟨b0 + 1 + 1, 0, none⟩) 1 1] ∧ Below w.heap.size w W)
  (fun _ _ _ => False)
  (OwnFrom.and (Own.from (fun pre X Y row hs hg hr => by
   obtain ⟨r, cr, h1, h2⟩ := hs
   refine ⟨r, cr, bx_own _ _ (fun (_ : Unit) => #[Value.slice r pre.length cr]) () X Y row h1 hg hr, World.ownsRow.kept h2 hg ?_⟩
   rcases h2.2 with ⟨e, _⟩ | ⟨g, cap, cur, e, _, hh, _⟩
   ·rw [e]; exact .inl rfl
   ·refine .inr fun e2 => ?_
    rw [e] at e2
    simp only [Value.ownBlock] at e2
    obtain ⟨o, ho, hc⟩ := hr g e2.symm
    rw [hh] at ho; cases ho; cases hc) _) (OwnFrom.and (Own.from (bx_own _ _ _) _) (ownFrom_below (Nat.le_refl _) (by have := HS5.out; have := HB0.out; omega))))
  (fun _ _ _ _ _ hs _ _ => hs)
  ⟨⟨none, 0, HG5.out, ownZ_nil _ _⟩, HBK.out, HB5.out⟩
  (fun x a' W => ∃ bx, b0 + 1 + 1 + 1 + 1 < bx ∧ Bx W bx 28 (encN x.2).toArray ∧ (∀ r k cr, Boxed W (b0 + 1) 24 (.slice r k cr) → True) ∧ a' = { tmps := #[.agg #[.slice p m c, .slice pn nn cn], .pointer (some ⟨b0, 0, none⟩), .int .i64 0, .int .i64 0, .pointer (some ⟨b0 + 1, 0, none⟩), undef, .pointer (some ⟨bx, 0, none⟩), .pointer (some ⟨b0, 0, none⟩), .slice p m c, .slice (some ⟨b0 + 1 + 1, 0, none⟩) 1 1, .func (.func 117) #[] #[.pointer (some ⟨b0 + 1 + 1 + 1, 0, none⟩), .pointer (some ⟨b0 + 1 + 1 + 1 + 1, 0, none⟩)], .int .i64 (x.1 : Nat), .agg (encN x.2).toArray, undef, undef, undef, undef, undef, undef, undef, undef, undef, undef, undef, undef], defers := [] })
  (fun x a' _ X Y row hs hg hr => by
   obtain ⟨bx, h1, h2, _, h3⟩ := hs
   refine ⟨bx, h1, h2.kept hg (fun e => ?_), fun _ _ _ _ => trivial, h3⟩
   obtain ⟨o, ho, hc⟩ := (hr bx e.symm).2
   rw [show X.heap[bx]? = _ from h2] at ho; cases ho; cases hc)
  ?assign ?body ?done ?stop
 case assign =>
  rintro l pre x W K ⟨⟨r, cr, hG1, hO1⟩, hK1, hB1⟩ hK
  obtain ⟨ls, lk, hlit⟩ := node_lit x.2
  unfold NodeLit at hlit
  have hz := hK1.lt
  have hbl := bl_alloc W (.cells (encN x.2).toArray 28)
  have hbx := Bx.new W 28 (encN x.2).toArray
  have HAS := lh (hK _ (W.alloc (.cells (encN x.2).toArray 28)) ((KeepsOthers.alloc _ _).from _) (KpN.of_below hbl) ⟨⟨r, cr, (show Bx W (b0 + 1) _ #[_] from hG1).below hbl, ownZ_below hO1 hbl⟩, hK1.below hbl, hB1.trans (hbl.mono hB1.size)⟩ ⟨W.heap.size, hz, hbx, fun _ _ _ _ => trivial, rfl⟩)
  rw [hlit] at HAS ⊢
  clear hlit hbl hbx hz hK hG1 hO1 hK1 hB1
  gi_wp2
  exact HAS.out
 case body =>
  rintro l pre x a' W hl ⟨lp, hr⟩ ⟨⟨r, cr, hG1, hO1⟩, hK1, hB1⟩ ⟨bx, hbx, hX1, _, rfl⟩ hlt
  obtain ⟨ls, lk, hlit⟩ := node_lit x.2
  unfold NodeLit at hlit
  rw [hlit] at hX1 ⊢
  have c3 := (nine hX1).2.2.2.1
  have cG := hG1.cell
  have hlg : pre.length = (grI pre).length := by simp [grI]
  have hrow := ownZ_row hO1 hlg
  have HROW := lh hrow
  have HGX := lh hG1
  have HWS := lh (show b0 + 1 + 1 + 1 + 1 + 1 ≤ W.heap.size by have := hK1.lt; omega)
  have HLT := lh hlt
  have HKB := lh (And.intro hK1 hB1)
  have HLG := lh hlg
  clear hlit hr hX1 hG1 hO1 hK1 hB1 hlt hrow hlg
  gi_wp2_with (gi_at_builtin; refine wpListIn_append_own _ rfl _ _ 24 rfl (b0 + 1 + 1 + 1 + 1 + 1) 3 i0 (.int .i64 0) 1 8 Tryz.underlying24 hinf hz0 hz1 hz2 rfl (by decide) (.slice r pre.length cr) pre.length _ rfl (HROW.out.alloc _) ⟨W.heap.size, 0, none⟩ 1 1 [.int .i64 x.2.nd.group] rfl rfl (cells_one_z _ _ _) (by simp [Value.oneCell']) (by have := HML.out; have := HLT.out; simp only [maxLen]; omega) (by have := HML.out; have := HLT.out; omega) (by have := HWS.out; simp; omega) ?_; intro v' w1 hown' hgrow _; obtain ⟨g', cap', rfl⟩ := ownsRow_succ hown'; obtain ⟨hv1, hv2, hr2, hk2, hb2, hs2⟩ := boxed_app (n₀ := b0) HGX.out (by decide) HROW.out (by omega) HWS.out (by omega) hown' hgrow; have hc1 := hv1.cell; have hf1 := hv1.frozen; have HV1 := lh hv1; have HV2 := lh hv2; have HR2 := lh hr2; have HK2 := lh hk2; have HB2 := lh hb2; have HSM := lh hs2; clear hv1 hv2 hr2 hk2 hb2 hs2 hown' hgrow)
  have hbk : Bx (w1.setCell ⟨b0 + 1, 0, none⟩ (Value.slice (some ⟨g', 0, none⟩) (pre.length + 1) cap')) (b0 + 1 + 1 + 1 + 1) 154 #[.slice (some ⟨b0 + 1 + 1, 0, none⟩) 1 1] := (HSM.out _ (by omega) (by omega)).trans HKB.out.1
  have hbw := HKB.out.2.trans (HB2.out.mono (Nat.le_of_eq HB0.out.symm))
  refine ⟨HK2.out.from _, ⟨fun _ => HL.out.below hbw, fun h => h.same (HSM.out _ (by omega) (by omega)), fun b T cs hb h => (HSM.out b (by rcases hb with rfl | rfl <;> omega) (by rcases hb with rfl | rfl <;> omega)).trans h⟩, ⟨some ⟨g', 0, none⟩, cap', ?_, ?_⟩, hbk, hbw⟩
  ·rw [List.length_append]; exact HV2.out
  ·have h := HR2.out
   rw [← grI_snoc_map] at h
   rw [List.length_append]
   unfold OwnZ
   rw [grI_snoc]
   rw [show (grI pre ++ [x.2.nd.group]).length = pre.length + 1 by rw [List.length_append, ← HLG.out]; rfl]
   exact h
 case done =>
  rintro D ys W hD rfl ⟨⟨r, cr, hG1, hO1⟩, hK1, hB1⟩ hK
  obtain ⟨n, hn⟩ : ∃ n, n = (ev [5] 0 xs).length := ⟨_, rfl⟩
  have hgl : grL xs = grI (ev [5] 0 xs) := rfl
  have hgn : n = (grL xs).length := by rw [hgl, hn]; simp [grI]
  rw [← hn] at hG1 hO1
  rw [← hgl] at hO1
  have hS := ownZ_slz hO1
  have cG := hG1.cell
  have HGN := lh hgn
  have HLN : Hid (n ≤ 1000000) := by show _ ≤ _; have := HML.out; omega
  have HX := lh (And.intro hS (And.intro hB1 hK))
  have HD := lh hD
  clear hK1 hG1 hO1 hS hB1 hK hD hgl hn hgn
  by_cases hz : n = 0
  ·subst hz
   gi_wp2
   have HE : grL xs = [] := List.length_eq_zero_iff.1 HGN.out.symm
   rw [HE]; show bodyPostM _ _ _ _ (fun e w' => e = .returned (.tuple #[.int .i64 0, .int .i64 0]) ∧ _) _ _ _
   refine ⟨by simp, .inl ⟨_, _, rfl, run_takeDeferred HX.out.2.2, ?_⟩⟩
   exact ⟨_, by simp [results, Tryz.f27], rfl, HX.out.2.1.trans (belowK_b (w := w) (Nat.le_refl _) _ D _ _ (by have := HS5.out; have := HB0.out; have := HD.out; omega) HX.out.2.2 rfl rfl)⟩
  ·have hz' : ¬ ((n : Int) = 0) := by omega
   gi_wp2
   refine wpIn_wide.2 ?_
   go_quiet (first | (go_at_call 68; exact Calls.quiet_of_same ((minL_any _ _ _ (grL xs) _ HGN.out (by omega) (HX.out.1.drewn _) HLN.out).mono fun _ _ h => ⟨h.1, h.2.symm⟩)) | (go_at_call 69; exact Calls.quiet_of_same ((maxL_any _ _ _ (grL xs) _ HGN.out (by omega) (HX.out.1.drewn _) HLN.out).mono fun _ _ h => ⟨h.1, h.2.symm⟩)))
   gi_wp2
   have hkq : (W.drewN nq).heap[D]? = some (.deferred (some [])) := by simpa using HX.out.2.2
   refine ⟨by simp, .inl ⟨_, _, rfl, run_takeDeferred hkq, ?_⟩⟩
   have hbq : Below w.heap.size w (W.drewN nq) := ⟨HX.out.2.1.os, HX.out.2.1.tape, HX.out.2.1.output, HX.out.2.1.size, HX.out.2.1.block⟩
   exact ⟨_, by simp [results, Tryz.f27], rfl, hbq.trans (belowK_b (w := w) (Nat.le_refl _) _ D _ _ (by have := HS5.out; have := HB0.out; have := HD.out; omega) hkq rfl rfl)⟩
 case stop =>
  rintro D c' pre W _ _ h _
  exact h.elim
end Go.Proofs.YtkefndfgkmdphaaGreat
