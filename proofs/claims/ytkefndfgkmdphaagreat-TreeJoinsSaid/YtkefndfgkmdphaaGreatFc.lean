import Derived.Test.YtkefndfgkmdphaaGreatFi
import Derived.Test.YtkefndfgkmdphaaGreatFb
import Derived.Test.YtkefndfgkmdphaaGreatJk

namespace Go.Proofs.YtkefndfgkmdphaaGreat
set_option maxHeartbeats 12800000
set_option maxRecDepth 100000
open Go.RowKit

def mcR (k i : Nat) : List Value := [.int .i64 (mk k i), .int .i64 0]
theorem mcR_length (k i : Nat) : (mcR k i).length = 2 := rfl
theorem finfo_R : (Tryz.prog.info? 63).map (fun i => (i.zero, i.size, i.bytes)) = some (some (.agg #[.int .i64 0, .int .i64 0]), 2, 16) := by kernel_rfl
theorem finfo_RS : (Tryz.prog.info? 23).map (fun i => (i.zero, i.size, i.bytes)) = some (some (.slice none 0 0), 1, 24) := by kernel_rfl

theorem frange_stood : Tryz.prog.stoodInHeld 63 = false := by kernel_rfl
theorem frange_guard : Tryz.prog.eqGuardType Tryz.prog.depth 63 = false := by kernel_rfl
theorem frange_fields : Tryz.prog.underlying 63 = some (.struct (Tryz.prog.fieldsOf 63)) := by kernel_rfl
theorem fequal_range (d : Nat) (x x' y y' : Int) (w : World) : (Op.equalIn (d + 2) 63 (.agg #[.int .i64 x, .int .i64 x']) (.agg #[.int .i64 y, .int .i64 y'])).run Tryz.prog w = .ok (x == y && x' == y') w := by
 rw [run_equalIn_agg _ _ _ _ _ frange_fields frange_stood]
 simp only [Program.fieldsOf, Tryz.underlying63]
 by_cases h1 : x = y <;> by_cases h2 : x' = y' <;> simp [Op.eqFields, part, run_equalIn_int, Tryz.underlying3, h1, h2]

theorem flatRanges_any (q : Option Addr) (cq m : Nat) (ds : List D) (w : World) (hm : m = ds.length) (hq : SlD w q ds) (hr : ∀ k, k < m → Room w 2 (dg ds k)) (hfar : Far ds) (hm1 : m ≤ 20000) (hn : ∀ k, k < m → (dg ds k).n ≤ 100000) :
  Calls Tryz.prog 93 #[.slice q m cq] w fun e w' => e = .returned (.bool true) ∧ But (InD ds) w w' := by
 have HM := lh hm
 have HQ := lh hq
 have HF := lh hfar
 have HN := lh hn
 have HDW : Hid (∀ b, InD ds b → b < w.heap.size) := fun b ⟨j, hj, e⟩ => (hr j (by omega)).lt b e
 obtain ⟨i0, hinf, hz0, hz1, hz2⟩ := finfo_parts finfo_R
 obtain ⟨i1, hinf1, hy0, hy1, hy2⟩ := finfo_parts finfo_RS
 have HL := lh (show L1 2 mcR ds m w 0 w from ⟨But.refl _ _, hr, fun j hj => absurd hj (Nat.not_lt_zero j)⟩)
 have hmI : (m : Int) ≤ 20000 := by omega
 clear hm hq hr hfar hn
 go_enter Tryz.func93, Tryz.ntmps93
 go_wp2
 go_loopw [3] (fun kv wr => ∃ (k : Nat), k ≤ m ∧ kv = .int .i64 (k : Nat) ∧ Hid (L1 2 mcR ds m w k wr)) (fun kv _ => m - (intOf kv).toNat)
 case atStart => exact ⟨0, Nat.zero_le _, rfl, HL.out⟩
 case round =>
  clear HL
  obtain ⟨k, hk, rfl, HL⟩ := hrel
  rename World => wr
  by_cases hkm : k < m
  ·have hkI : (k : Int) < m := by omega
   obtain ⟨bq, oq, rfl, hcq, hnb, _⟩ := slD_at (slD_but HQ.out HL.out.but) (show k < ds.length by have := HM.out; omega)
   obtain ⟨⟨p, n, c⟩, hd⟩ : ∃ d, d = dg ds k := ⟨_, rfl⟩
   have hnn := HN.out k hkm
   rw [← hd] at hcq hnn
   simp only [D.val, D.ad] at hcq hnn
   obtain ⟨ad, had⟩ : ∃ ad, ad = p.map fun b => (⟨b, 0, none⟩ : Addr) := ⟨_, rfl⟩
   rw [← had] at hcq
   have HD := lh hd.symm
   have HAD := lh had
   have HNB := lh hnb
   have hnI : (n : Int) ≤ 100000 := by omega
   clear hd had hnb hnn
   go_wp2
   go_loopw [4] (fun iv wq => ∃ (i : Nat), i ≤ n ∧ iv = .int .i64 (i : Nat) ∧ Hid (L1 2 mcR ds m w k wq) ∧ Hid (Fill wq (dg ds k) (mrow mcR k i)) ∧ wq.cell? ⟨bq, oq + k, none⟩ = some (.slice ad n c)) (fun iv _ => n - (intOf iv).toNat)
   case atStart => exact ⟨0, Nat.zero_le _, rfl, HL.out, (fun b hb j u hu => by simp [mrow] at hu), hcq⟩
   case round =>
    clear HL hcq
    obtain ⟨i, hi, rfl, HL, HFI, hcq⟩ := hrel
    rename World => wq
    by_cases hin : i < n
    ·have hiI : (i : Int) < n := by omega
     obtain ⟨b, hb⟩ := room_some (HL.out.room k hkm) (by rw [HD.out]; simp only; omega)
     rw [HD.out] at hb
     simp only at hb
     subst hb
     have had := HAD.out
     simp only [Option.map_some] at had
     subst had
     have hroom := HL.out.room k hkm
     rw [HD.out] at hroom
     obtain ⟨s0, f0⟩ := hroom.cell b rfl (i * 2) (by have := hroom.le; simp only at this ⊢; omega)
     obtain ⟨s1, f1⟩ := hroom.cell b rfl (i * 2 + 1) (by have := hroom.le; simp only at this ⊢; omega)
     obtain ⟨u0, hu0⟩ := Option.isSome_iff_exists.1 s0
     obtain ⟨u1, hu1⟩ := Option.isSome_iff_exists.1 s1
     obtain ⟨x, hx⟩ : ∃ x, x = mk k i := ⟨_, rfl⟩
     have HMR := lh (fun W => markRange2_any k i W (by omega) (by omega))
     rw [← hx] at HMR
     have HX := lh hx
     clear hroom s0 s1 hx
     go_wp2
     go_region_with (go_at_call 75; refine (HMR.out _).mono ?_; rintro e w6 ⟨rfl, hb6⟩; have hcq6 := fkeep_cell hb6 hcq; have hu06 := fkeep_cell hb6 hu0; have hu16 := fkeep_cell hb6 hu1; have f06 := fkeep_frozen hb6 hu0 f0; have f16 := fkeep_frozen hb6 hu1 f1; have HB6 := lh hb6; clear hb6)
     all_goals
      have hL6 : L1 2 mcR ds m w k w6 := HL.out.below (fl_drew HB6.out)
      have hF6 : Fill w6 (dg ds k) (mrow mcR k i) := HFI.out.below (HL.out.room k hkm) (fl_drew HB6.out)
      have hnew := mark_one mcR_length (w' := (w6.setCell ⟨b, i * 2, none⟩ (.int .i64 x)).setCell ⟨b, i * 2 + 1, none⟩ (.int .i64 0)) HM.out HF.out hL6 hkm HD.out hin hF6 (by rw [HX.out]; rfl)
      have HNEW := lh hnew
      have hcn := slD_cell (slD_but HQ.out hnew.1.but) (show k < ds.length by have := HM.out; omega)
      rw [HD.out, val_some] at hcn
      clear hL6 hF6 hnew
      go_wp2
      go_roundw
     case rel => exact ⟨i + 1, by omega, by go_num, HNEW.out.1, HNEW.out.2, hcn⟩
     case measure => simp [intOf]; omega
     case rel => exact ⟨i + 1, by omega, by go_num, HNEW.out.1, HNEW.out.2, hcn⟩
     case measure => simp [intOf]; omega
    ·have hiI : (n : Int) ≤ i := by omega
     obtain rfl : i = n := by omega
     go_wp2
     go_roundw
     case rel => exact ⟨k + 1, by omega, by go_num, ⟨HL.out.but, HL.out.room, fun j hj hjm => by
      by_cases e : j = k
      ·subst e; have := HFI.out; rw [HD.out] at this ⊢; exact this
      ·exact HL.out.fill j (by omega) hjm⟩⟩
     case measure => simp [intOf]; omega
  ·have hkI : (m : Int) ≤ k := by omega
   obtain rfl : k = m := by omega
   go_wp2_with (at_make; refine wpList_make_full _ rfl _ _ 83 rfl wr.heap.size 23 i1 (.slice none 0 0) 1 Tryz.underlying83 hinf1 hy0 hy1 .i64 .i64 _ _ k rfl rfl rfl rfl (by rw [hy2]; omega) (by simp only [maxLen]; omega) (Nat.le_refl _) ?_; intro w2 ho2 hg2)
   have hL2 : L2 2 mcR ds [] k 64 wr.heap.size w2.heap.size w w2 := L2.start HL.out hg2 ho2 HM.out HDW.out
   have HL2 := lh hL2
   clear hL2 ho2 hg2 HL
   generalize wr.heap.size = G at *
   generalize hZ : w2.heap.size = Z at *
   clear hZ wr
   go_loopw [6] (fun kv wr => ∃ (j : Nat) (es : List D), j ≤ k ∧ kv = .int .i64 (j : Nat) ∧ Hid (es.length = j) ∧ Hid (L2 2 mcR ds es k 64 G Z w wr)) (fun kv _ => k - (intOf kv).toNat)
   case atStart => exact ⟨0, [], Nat.zero_le _, rfl, rfl, HL2.out⟩
   case round =>
    clear HL2
    obtain ⟨j, es, hj, rfl, HE, HL⟩ := hrel
    rename World => wr
    by_cases hjk : j < k
    ·have hjI : (j : Int) < k := by omega
     obtain ⟨bq, oq, rfl, hcq, hnb, _⟩ := slD_at (slD_but HQ.out HL.out.but) (show j < ds.length by have := HM.out; omega)
     obtain ⟨⟨p, n, c⟩, hd⟩ : ∃ d, d = dg ds j := ⟨_, rfl⟩
     have hnn := HN.out j hjk
     rw [← hd] at hcq hnn
     simp only at hnn
     have hv : D.val ⟨p, n, c⟩ = .slice (D.ad ⟨p, n, c⟩) n c := rfl
     rw [hv] at hcq
     obtain ⟨ad, had⟩ : ∃ ad, ad = D.ad ⟨p, n, c⟩ := ⟨_, rfl⟩
     rw [← had] at hcq
     have HD := lh hd.symm
     have HAD := lh had
     have hnI : (n : Int) ≤ 100000 := by omega
     have HAT : Hid (At2 ds es j G Z wr ⟨p, n, c⟩) := by have := HL.out.at0 (by rw [HE.out]; exact hjk); rw [HE.out, HD.out] at this; exact this
     have HRM : Hid (Room wr 2 ⟨p, n, c⟩) := by have := HL.out.room j hjk; rw [HD.out] at this; exact this
     have HFI : Hid (Fill wr ⟨p, n, c⟩ (mrow mcR j (n + 0))) := by have := HL.out.fill j hjk; rw [HD.out] at this; exact this
     have HJ := lh hjk
     clear hd hnb hnn hv had hjk
     go_wp2
     go_loopw [7, 8] (fun gv iv wq => ∃ (i : Nat) (e : D), i ≤ 64 ∧ gv = e.val ∧ iv = .int .i64 (i : Nat) ∧ Hid (L2 2 mcR ds es k 64 G Z w wq) ∧ Hid (At2 ds es j G Z wq e) ∧ Hid (Room wq 2 e) ∧ Hid (Fill wq e (mrow mcR j (n + i))) ∧ Hid (e.n = n + i) ∧ wq.cell? ⟨bq, oq + j, none⟩ = some (.slice ad n c)) (fun _ iv _ => 64 - (intOf iv).toNat)
     case atStart => exact ⟨0, ⟨p, n, c⟩, Nat.zero_le _, (by rw [HAD.out]; rfl), rfl, HL.out, HAT.out, HRM.out, HFI.out, rfl, hcq⟩
     case round =>
      clear HL HAT HRM HFI hcq
      obtain ⟨i, e, hi, rfl, rfl, HL, HAT, HRM, HFI, HEN, hcq⟩ := hrel
      rename World => wq
      by_cases hi64 : i < 64
      ·have hiI : (i : Int) < 64 := by omega
       have hen := HEN.out
       obtain ⟨x, hx⟩ : ∃ x, x = mk j (n + i) := ⟨_, rfl⟩
       have HMR : Hid (∀ (W : World) (z : Int), z = (n : Int) + i → Calls Tryz.prog 75 #[.int .i64 (j : Nat), .int .i64 z] W fun e w' => e = .returned (.agg #[.int .i64 x, .int .i64 0]) ∧ Below W.heap.size W w') := by
        rintro W z rfl
        have := markRange2_any j (n + i) W (by omega) (by omega)
        rw [← hx] at this
        rw [← Int.natCast_add]; exact this
       have HX := lh hx
       have HI := lh hi64
       have HNI := lh (show n ≤ 100000 by omega)
       have HEB := lh (show e.n ≤ 100100 by omega)
       clear hx hi64 hen hi
       go_wp2_with (first
        | (go_at_call 75; refine (HMR.out _ _ (by first | rfl | omega)).mono ?_; rintro er w6 ⟨rfl, hb6⟩; have HB6 := lh hb6; clear hb6)
        | (at_builtin; refine wpList_append_far rfl _ _ 23 rfl 63 i0 (.agg #[.int .i64 0, .int .i64 0]) 2 16 Tryz.underlying23 hinf hz0 hz1 hz2 rfl (by decide) e rfl ((HRM.out.below HB6.out).below ((Below.refl _ _).alloc (Nat.le_refl _) _)) _ ?c1 ((HFI.out.below HRM.out HB6.out).below (HRM.out.below HB6.out) ((Below.refl _ _).alloc (Nat.le_refl _) _)) ⟨w6.heap.size, 0, none⟩ 1 1 [.int .i64 x, .int .i64 0] rfl rfl (two_new _ _ _ _) (by simp [Value.oneCell']) (by decide) ?c2 ?c3 ?_))
       case c1 => rw [mrow_length mcR_length, HEN.out]
       case c2 => have := HEB.out; simp only [maxLen]; omega
       case c3 => have := HEB.out; omega
       intro e' w7 hgr
       have hL6 := (HL.out.below HB6.out HM.out).below ((Below.refl w6.heap.size w6).alloc (Nat.le_refl _) (.cells #[.int .i64 x, .int .i64 0] 63)) HM.out
       have hstep := hL6.grewAt HM.out HF.out HE.out HJ.out HAT.out.world (n := n) (by rw [HD.out]) (by have := HEN.out; omega) mcR_length hgr
       have HS := lh hstep
       have HFN : Hid (Fill w7 e' (mrow mcR j (n + (i + 1)))) := by
        show Fill w7 e' _
        have := HS.out.2.2.2.1
        rw [← Nat.add_assoc, mrow_succ]
        rw [show mcR j (n + i) = [.int .i64 x, .int .i64 0] by rw [HX.out]; rfl]
        exact this
       have HEN2 : Hid (e'.n = n + (i + 1)) := by have := HS.out.2.2.2.2; have := HEN.out; show _ = _; omega
       have hcn := slD_cell (slD_but HQ.out hstep.1.but) (show j < ds.length by have := HM.out; have := HJ.out; omega)
       rw [HD.out, show D.val ⟨p, n, c⟩ = .slice ad n c by rw [HAD.out]; rfl] at hcn
       clear hL6 hstep hgr hcq
       go_wp2
       go_roundw
       case rel => exact ⟨i + 1, e', by have := HI.out; omega, rfl, by go_num, HS.out.1, HS.out.2.1, HS.out.2.2.1, HFN, HEN2, hcn⟩
       case measure => have := HI.out; simp [intOf]; omega
      ·have hiI : (64 : Int) ≤ i := by omega
       obtain rfl : i = 64 := by omega
       obtain ⟨p', n', c'⟩ := e
       obtain ⟨ad', had'⟩ : ∃ a, a = D.ad ⟨p', n', c'⟩ := ⟨_, rfl⟩
       rw [show D.val ⟨p', n', c'⟩ = .slice ad' n' c' by rw [had']; rfl]
       obtain ⟨f1, f2⟩ := HL.out.free j HJ.out
       obtain ⟨u0, hu0⟩ := Option.isSome_iff_exists.1 f1
       have hput := HL.out.putAt HM.out HE.out HJ.out HAT.out (n := n) (by rw [HD.out]) HRM.out HFI.out HEN.out
       rw [show D.val ⟨p', n', c'⟩ = .slice ad' n' c' by rw [had']; rfl] at hput
       have HPUT := lh hput
       clear had' hput f1 hcq
       go_wp2
       go_roundw
       case rel => exact ⟨j + 1, _, by have := HJ.out; omega, by go_num, HPUT.out.2, HPUT.out.1⟩
       case measure => have := HJ.out; simp [intOf]; omega
    ·have hjI : (k : Int) ≤ j := by omega
     obtain rfl : k = j := by omega
     clear hj
     go_wp2
     go_loopw [9] (fun kv wr => ∃ (j : Nat), j ≤ k ∧ kv = .int .i64 (j : Nat) ∧ Hid (L2 2 mcR ds es k 64 G Z w wr)) (fun kv _ => k - (intOf kv).toNat)
     case atStart => exact ⟨0, Nat.zero_le _, rfl, HL.out⟩
     case round =>
     clear HL
     obtain ⟨j, hj, rfl, HL⟩ := hrel
     rename World => wr
     by_cases hjk : j < k
     ·have hjI2 : (j : Int) < k := by omega
      obtain ⟨bq, oq, rfl, hcq, hnb, _⟩ := slD_at (slD_but HQ.out HL.out.but) (show j < ds.length by have := HM.out; omega)
      obtain ⟨⟨p, n, c⟩, hd⟩ : ∃ d, d = dg ds j := ⟨_, rfl⟩
      obtain ⟨⟨p2, n2, c2⟩, he⟩ : ∃ d, d = dg es j := ⟨_, rfl⟩
      have hnn := HN.out j hjk
      have hn2 := HL.out.nE j (by rw [HE.out]; exact hjk)
      have hcg := HL.out.cell j (by rw [HE.out]; exact hjk)
      have hre := HL.out.roomE j (by rw [HE.out]; exact hjk)
      rw [← hd] at hcq hnn hn2
      rw [← he] at hn2 hcg hre
      simp only at hnn hn2
      subst hn2
      obtain ⟨b2, hb2⟩ := room_some hre (by simp only; omega)
      simp only at hb2
      subst hb2
      rw [val_some] at hcg
      have hv : D.val ⟨p, n, c⟩ = .slice (D.ad ⟨p, n, c⟩) n c := rfl
      rw [hv] at hcq
      obtain ⟨ad, had⟩ : ∃ ad, ad = D.ad ⟨p, n, c⟩ := ⟨_, rfl⟩
      rw [← had] at hcq
      have HD := lh hd.symm
      have HED := lh he.symm
      have HAD := lh had
      have hnI : (n : Int) ≤ 100000 := by omega
      have hcI : (n : Int) + 64 ≤ c2 := by have := hre.le; simp only at this; omega
      have HJ := lh hjk
      clear hd he hnb hnn hv had hre hjk
      go_wp2
      go_loopw [10] (fun iv wq => ∃ (i : Nat), i ≤ n + 64 ∧ iv = .int .i64 (i : Nat) ∧ Hid (L2 2 mcR ds es k 64 G Z w wq) ∧ wq.cell? ⟨bq, oq + j, none⟩ = some (.slice ad n c) ∧ wq.cell? ⟨G, j, none⟩ = some (.slice (some ⟨b2, 0, none⟩) (n + 64) c2)) (fun iv _ => n + 64 - (intOf iv).toNat)
      case atStart => exact ⟨0, Nat.zero_le _, rfl, HL.out, hcq, hcg⟩
      case round =>
       clear HL hcq hcg
       obtain ⟨i, hi, rfl, HL, hcq, hcg⟩ := hrel
       rename World => wq
       by_cases hi64 : i < n + 64
       ·have hiI : (i : Int) < (n : Int) + 64 := by omega
        have hfe := HL.out.fillE j (by rw [HE.out]; exact HJ.out)
        rw [HED.out, HD.out] at hfe
        obtain ⟨x, hx⟩ : ∃ x, x = mk j i := ⟨_, rfl⟩
        have hx1 := mrow_cell mcR_length hfe rfl hi64 (show 0 < 2 by omega) (show (mcR j i)[0]? = some (.int .i64 x) by rw [hx]; rfl)
        have hx2 := mrow_cell mcR_length hfe rfl hi64 (show 1 < 2 by omega) (show (mcR j i)[1]? = some (.int .i64 0) from rfl)
        rw [Nat.add_zero] at hx1
        have HMR := lh (fun W => markRange2_any j i W (by have := HJ.out; omega) (by omega))
        rw [← hx] at HMR
        have HX := lh hx
        have hgd := frange_guard
        have heq := fun W => fequal_range 9998 x 0 x 0 W
        rw [show (x == x && (0 : Int) == 0) = true by simp] at heq
        clear hfe hx
        by_cases hin : i < n
        ·have hiJ : (i : Int) < n := by omega
         have hlt : decide ((i : Int) < n) = true := by rw [decide_eq_true_iff]; omega
         have hltN : decide (i < n) = true := by rw [decide_eq_true_iff]; omega
         have hroom := HL.out.room j HJ.out
         obtain ⟨b, hb⟩ := room_some hroom (by rw [HD.out]; simp only; omega)
         rw [HD.out] at hb hroom
         simp only at hb
         subst hb
         have had := HAD.out
         rw [show D.ad ⟨some b, n, c⟩ = some ⟨b, 0, none⟩ from rfl] at had
         subst had
         have hfd := HL.out.fill j HJ.out
         rw [HD.out] at hfd
         have hx3 := mrow_cell mcR_length hfd rfl hin (show 0 < 2 by omega) (show (mcR j i)[0]? = some (.int .i64 x) by rw [HX.out]; rfl)
         have hx4 := mrow_cell mcR_length hfd rfl hin (show 1 < 2 by omega) (show (mcR j i)[1]? = some (.int .i64 0) from rfl)
         rw [Nat.add_zero] at hx3
         clear hfd hroom
         go_wp2
         have HKP : Hid (KpB (fun W => W.cell? ⟨bq, oq + j, none⟩ = some (.slice (some ⟨b, 0, none⟩) n c) ∧ W.cell? ⟨G, j, none⟩ = some (.slice (some ⟨b2, 0, none⟩) (n + 64) c2) ∧ W.cell? ⟨b2, i * 2, none⟩ = some (.int .i64 x) ∧ W.cell? ⟨b2, i * 2 + 1, none⟩ = some (.int .i64 0) ∧ W.cell? ⟨b, i * 2, none⟩ = some (.int .i64 x) ∧ W.cell? ⟨b, i * 2 + 1, none⟩ = some (.int .i64 0) ∧ Hid (L2 2 mcR ds es k 64 G Z w W))) := fun V w6 ⟨h1, h2, h3, h4, h5, h6, h7⟩ hb6 => And.intro (fkeep_cell hb6 h1) (And.intro (fkeep_cell hb6 h2) (And.intro (fkeep_cell hb6 h3) (And.intro (fkeep_cell hb6 h4) (And.intro (fkeep_cell hb6 h5) (And.intro (fkeep_cell hb6 h6) (lh (L2.below h7.out hb6 HM.out)))))))
         refine quiet_kp HKP ⟨hcq, hcg, hx1, hx2, hx3, hx4, HL.out.below ((Below.refl _ _).drew) HM.out⟩ (by kernel_rfl) (by kernel_rfl) ?_
         iterate 9 (refine qw ?_; try simp only [Act.put, sb])
         (refine q_want (by kernel_rfl) (fun K hK => ?_); refine ⟨.agg #[.int .i64 x, .int .i64 0], fun V hV => ?_, hK _ ?_⟩; (focus (have HV := lh hV; clear hV; unfold Oper.quietAt; go_simp; refine (HMR.out _).mono ?_; rintro er w6 ⟨rfl, hb6⟩; exact ⟨rfl, HKP.out _ _ HV.out hb6⟩)); clear hK K; (try simp only [Act.put, sb]))
         iterate 20 (refine qw ?_; try simp only [Act.put, sb])
         (refine q_want (by kernel_rfl) (fun K hK => ?_); refine ⟨.agg #[.int .i64 x, .int .i64 0], fun V hV => ?_, hK _ ?_⟩; (focus (have HV := lh hV; clear hV; unfold Oper.quietAt; go_simp; refine (HMR.out _).mono ?_; rintro er w6 ⟨rfl, hb6⟩; exact ⟨rfl, HKP.out _ _ HV.out hb6⟩)); clear hK K; (try simp only [Act.put, sb]))
         iterate 4 (refine qw ?_; try simp only [Act.put, sb])
         refine ⟨wpQuiet_nil ?_⟩
         intro w6 hHeld22
         clear HKP
         go_wp2
         go_roundw
         case rel => exact ⟨i + 1, by omega, by go_num, hHeld22.2.2.2.2.2.2, hHeld22.1, hHeld22.2.1⟩
         case measure => simp [intOf]; omega
        ·have hiJ : (n : Int) ≤ i := by omega
         have hlt : decide ((i : Int) < n) = false := by rw [decide_eq_false_iff_not]; omega
         have hltN : decide (i < n) = false := by rw [decide_eq_false_iff_not]; omega
         go_wp2
         have HKP : Hid (KpB (fun W => W.cell? ⟨bq, oq + j, none⟩ = some (.slice ad n c) ∧ W.cell? ⟨G, j, none⟩ = some (.slice (some ⟨b2, 0, none⟩) (n + 64) c2) ∧ W.cell? ⟨b2, i * 2, none⟩ = some (.int .i64 x) ∧ W.cell? ⟨b2, i * 2 + 1, none⟩ = some (.int .i64 0) ∧ Hid (L2 2 mcR ds es k 64 G Z w W))) := fun V w6 ⟨h1, h2, h3, h4, h5⟩ hb6 => And.intro (fkeep_cell hb6 h1) (And.intro (fkeep_cell hb6 h2) (And.intro (fkeep_cell hb6 h3) (And.intro (fkeep_cell hb6 h4) (lh (L2.below h5.out hb6 HM.out)))))
         refine quiet_kp HKP ⟨hcq, hcg, hx1, hx2, HL.out.below ((Below.refl _ _).drew) HM.out⟩ (by kernel_rfl) (by kernel_rfl) ?_
         iterate 9 (refine qw ?_; try simp only [Act.put, sb])
         (refine q_want (by kernel_rfl) (fun K hK => ?_); refine ⟨.agg #[.int .i64 x, .int .i64 0], fun V hV => ?_, hK _ ?_⟩; (focus (have HV := lh hV; clear hV; unfold Oper.quietAt; go_simp; refine (HMR.out _).mono ?_; rintro er w6 ⟨rfl, hb6⟩; exact ⟨rfl, HKP.out _ _ HV.out hb6⟩)); clear hK K; (try simp only [Act.put, sb]))
         iterate 11 (refine qw ?_; try simp only [Act.put, sb])
         iterate 12 (refine q_skip ((wanted_some (j := 20) (s := 108) (b := true) (c := false) rfl rfl rfl).trans rfl) ?_; (try simp only [Act.put, sb]))
         iterate 2 (refine qw ?_; try simp only [Act.put, sb])
         refine ⟨wpQuiet_nil ?_⟩
         intro w6 hHeld2
         clear HKP
         go_wp2
         go_roundw
         case rel => exact ⟨i + 1, by omega, by go_num, hHeld2.2.2.2.2, hHeld2.1, hHeld2.2.1⟩
         case measure => simp [intOf]; omega
       ·have hiI : (n : Int) + 64 ≤ i := by omega
        go_wp2
        go_roundw
        case rel => exact ⟨j + 1, by have := HJ.out; omega, by go_num, HL.out⟩
        case measure => have := HJ.out; simp [intOf]; omega
     ·have hjI2 : (k : Int) ≤ j := by omega
      obtain rfl : k = j := by omega
      have HL0 := lh (HL.out.anew (y := 0))
      clear HL HE hj
      go_wp2
      go_loopw [11] (fun kv wr => ∃ (j : Nat) (es : List D), j ≤ k ∧ kv = .int .i64 (j : Nat) ∧ Hid (es.length = j) ∧ Hid (L2 2 mcR ds es k 0 G Z w wr)) (fun kv _ => k - (intOf kv).toNat)
      case atStart => exact ⟨0, [], Nat.zero_le _, rfl, rfl, HL0.out⟩
      case round =>
      clear HL0
      obtain ⟨j, es, hj, rfl, HE, HL⟩ := hrel
      rename World => wr
      by_cases hjk : j < k
      ·have hjI : (j : Int) < k := by omega
       have HJ := lh hjk
       go_wp2_with (at_make; refine wpList_make_full _ rfl _ _ 23 rfl wr.heap.size 63 i0 (.agg #[.int .i64 0, .int .i64 0]) 2 Tryz.underlying23 hinf hz0 hz1 .i64 .i64 _ _ 64 rfl rfl rfl rfl (by rw [hz2]; omega) (by simp only [maxLen]; omega) (Nat.le_refl _) ?_; intro w2 ho2 hg2)
       have hb2 : Below wr.heap.size wr w2 := ⟨hg2.os, hg2.tape, hg2.output, hg2.size, fun k hk => hg2.block k hk (by simp)⟩
       have HL2 := lh (HL.out.below hb2 HM.out)
       have hro := room_of_full ho2
       have HRM := lh hro
       have HFI : Hid (Fill w2 ⟨some wr.heap.size, 64, 64⟩ (mrow mcR (j + k) 0)) := fun b hb t u hu => by simp [mrow] at hu
       have HMB : Hid (¬ InD ds wr.heap.size ∧ ¬ InD es wr.heap.size ∧ wr.heap.size ≠ G ∧ w.heap.size ≤ wr.heap.size) := by
        refine ⟨fun s => ?_, fun s => ?_, ?_, ?_⟩
        ·have := HDW.out _ s; have := HL.out.but.size; omega
        ·obtain ⟨t, ht, et⟩ := s; have := (HL.out.roomE t ht).lt _ et; omega
        ·have := HL.out.gz; have := HL.out.zs; omega
        ·exact HL.out.but.size
       clear HL hro ho2 hg2 hb2
       generalize wr.heap.size = M at *
       clear wr hjk
       go_loopw [13] (fun iv wq => ∃ (i : Nat), i ≤ 64 ∧ iv = .int .i64 (i : Nat) ∧ Hid (L2 2 mcR ds es k 0 G Z w wq) ∧ Hid (Room wq 2 ⟨some M, 64, 64⟩) ∧ Hid (Fill wq ⟨some M, 64, 64⟩ (mrow mcR (j + k) i))) (fun iv _ => 64 - (intOf iv).toNat)
       case atStart => exact ⟨0, by omega, rfl, HL2.out, HRM.out, HFI.out⟩
       case round =>
       clear HL2 HRM HFI
       obtain ⟨i, hi, rfl, HL, HRM, HFI⟩ := hrel
       rename World => wq
       by_cases hi64 : i < 64
       ·have hiI : (i : Int) < 64 := by omega
        obtain ⟨x, hx⟩ : ∃ x, x = mk (j + k) i := ⟨_, rfl⟩
        have HMR : Hid (∀ (W : World) (z : Int), z = (j : Int) + k → Calls Tryz.prog 75 #[.int .i64 z, .int .i64 (i : Nat)] W fun e w' => e = .returned (.agg #[.int .i64 x, .int .i64 0]) ∧ Below W.heap.size W w') := by
         rintro W z rfl
         have := markRange2_any (j + k) i W (by have := HJ.out; omega) (by omega)
         rw [← hx] at this
         rw [← Int.natCast_add]; exact this
        have HX := lh hx
        have HI := lh hi64
        clear hx hi64 hi
        go_wp2_with (go_at_call 75; refine (HMR.out _ _ (by first | rfl | omega)).mono ?_; rintro er w6 ⟨rfl, hb6⟩; have hr6 := HRM.out.below hb6; have HR6 := lh hr6; have HF6 := lh (HFI.out.below HRM.out hb6); have HL6 := lh (HL.out.below hb6 HM.out); obtain ⟨s0, f0⟩ := hr6.cell M rfl (i * 2) (by have := HI.out; simp only; omega); obtain ⟨s1, f1⟩ := hr6.cell M rfl (i * 2 + 1) (by have := HI.out; simp only; omega); obtain ⟨u0, hu0⟩ := Option.isSome_iff_exists.1 s0; obtain ⟨u1, hu1⟩ := Option.isSome_iff_exists.1 s1; clear hr6 s0 s1 hb6)
        have hw : (w6.setCell ⟨M, i * 2, none⟩ (.int .i64 x)).setCell ⟨M, i * 2 + 1, none⟩ (.int .i64 0) = w6.setCells M (i * 2) (mcR (j + k) i) := by rw [HX.out]; rfl
        have hn1 : L2 2 mcR ds es k 0 G Z w (w6.setCells M (i * 2) (mcR (j + k) i)) := HL6.out.but' (But.ofGrown (grown_setCells w6 M (i * 2) (mcR (j + k) i))) (fun b s => by
         simp only [Option.some.injEq] at s
         subst s
         exact HMB.out) HM.out
        have hn2 := room_set HR6.out M (i * 2) (mcR (j + k) i)
        have hn3 := fill_set mcR_length HR6.out rfl (by have := HI.out; simp only; omega) HF6.out
        rw [← hw] at hn1 hn2 hn3
        have HN1 := lh hn1
        have HN2 := lh hn2
        have HN3 := lh hn3
        clear hn1 hn2 hn3 hw
        go_wp2
        go_roundw
        case rel => exact ⟨i + 1, by have := HI.out; omega, by go_num, HN1.out, HN2.out, HN3.out⟩
        case measure => have := HI.out; simp [intOf]; omega
       ·have hiI : (64 : Int) ≤ i := by omega
        obtain rfl : i = 64 := by omega
        obtain ⟨bq, oq, rfl, hcq, hnb, _⟩ := slD_at (slD_but HQ.out HL.out.but) (show j < ds.length by have := HM.out; have := HJ.out; omega)
        obtain ⟨⟨p, n, c⟩, hd⟩ : ∃ d, d = dg ds j := ⟨_, rfl⟩
        have hnn := HN.out j HJ.out
        rw [← hd] at hcq hnn
        simp only at hnn
        have hv : D.val ⟨p, n, c⟩ = .slice (D.ad ⟨p, n, c⟩) n c := rfl
        rw [hv] at hcq
        obtain ⟨ad, had⟩ : ∃ ad, ad = D.ad ⟨p, n, c⟩ := ⟨_, rfl⟩
        rw [← had] at hcq
        have HD := lh hd.symm
        have HAD := lh had
        have HNN := lh hnn
        have HRD : Hid (Room wq 2 ⟨p, n, c⟩) := by have := HL.out.room j HJ.out; rw [HD.out] at this; exact this
        have HFD : Hid (Fill wq ⟨p, n, c⟩ (mrow mcR j n)) := by have := HL.out.fill j HJ.out; rw [HD.out] at this; exact this
        have HAT : Hid (At2 ds es j G Z wq ⟨p, n, c⟩) := by have := HL.out.at0 (by rw [HE.out]; exact HJ.out); rw [HE.out, HD.out] at this; exact this
        have HNEW : Hid (∀ t u, (mrow mcR (j + k) 64)[t]? = some u → wq.cell? ((⟨M, 0, none⟩ : Addr).add t) = some u) := fun t u hu => by
         rw [Addr.add_lit, Nat.zero_add]; exact HFI.out M rfl t u hu
        have HONE : Hid (∀ u ∈ mrow mcR (j + k) 64, u.oneCell' = true) := by
         intro u hu
         unfold mrow at hu
         rw [List.mem_flatMap] at hu
         obtain ⟨t, _, ht⟩ := hu
         simp only [mcR, List.mem_cons, List.not_mem_nil, or_false] at ht
         rcases ht with rfl | rfl <;> rfl
        clear hd hnb hnn hv had HFI HRM hi
        go_wp2_with (at_builtin; refine wpList_append_far rfl _ _ 23 rfl 63 i0 (.agg #[.int .i64 0, .int .i64 0]) 2 16 Tryz.underlying23 hinf hz0 hz1 hz2 rfl (by decide) ⟨p, n, c⟩ (by show Value.slice ad n c = _; rw [HAD.out]; rfl) HRD.out _ (mrow_length mcR_length j n) HFD.out ⟨M, 0, none⟩ 64 64 (mrow mcR (j + k) 64) rfl (mrow_length mcR_length _ 64) HNEW.out HONE.out (by decide) ?c2 ?c3 ?_)
        case c2 => have := HNN.out; simp only [maxLen]; omega
        case c3 => have := HNN.out; omega
        intro e' w7 hgr
        have hstep := HL.out.grewAt HM.out HF.out HE.out HJ.out HAT.out (n := n) (by rw [HD.out]) (Nat.le_refl _) mcR_length hgr
        obtain ⟨f1, f2⟩ := hstep.1.free j HJ.out
        obtain ⟨u0, hu0⟩ := Option.isSome_iff_exists.1 f1
        have hput := hstep.1.putAt HM.out HE.out HJ.out hstep.2.1 (n := n) (by rw [HD.out]) hstep.2.2.1 hstep.2.2.2.1.front hstep.2.2.2.2
        obtain ⟨p', n', c'⟩ := e'
        obtain ⟨ad', had'⟩ : ∃ a, a = D.ad ⟨p', n', c'⟩ := ⟨_, rfl⟩
        rw [show D.val ⟨p', n', c'⟩ = .slice ad' n' c' by rw [had']; rfl] at hput ⊢
        have HPUT := lh hput
        clear had' hput f1 hcq hgr hstep
        go_wp2
        go_roundw
        case rel => exact ⟨j + 1, _, by have := HJ.out; omega, by go_num, HPUT.out.2, HPUT.out.1⟩
        case measure => have := HJ.out; simp [intOf]; omega
      ·have hjI2 : (k : Int) ≤ j := by omega
       obtain rfl : k = j := by omega
       clear hj
       go_wp2
       go_loopw [14] (fun kv wr => ∃ (j : Nat), j ≤ k ∧ kv = .int .i64 (j : Nat) ∧ Hid (L2 2 mcR ds es k 0 G Z w wr)) (fun kv _ => k - (intOf kv).toNat)
       case atStart => exact ⟨0, Nat.zero_le _, rfl, HL.out⟩
       case round =>
       clear HL
       obtain ⟨j, hj, rfl, HL⟩ := hrel
       rename World => wr
       by_cases hjk : j < k
       ·have hjI3 : (j : Int) < k := by omega
        obtain ⟨bq, oq, rfl, hcq, hnb, _⟩ := slD_at (slD_but HQ.out HL.out.but) (show j < ds.length by have := HM.out; omega)
        obtain ⟨⟨p, n, c⟩, hd⟩ : ∃ d, d = dg ds j := ⟨_, rfl⟩
        have hnn := HN.out j hjk
        rw [← hd] at hcq hnn
        simp only at hnn
        have hv : D.val ⟨p, n, c⟩ = .slice (D.ad ⟨p, n, c⟩) n c := rfl
        rw [hv] at hcq
        obtain ⟨ad, had⟩ : ∃ ad, ad = D.ad ⟨p, n, c⟩ := ⟨_, rfl⟩
        rw [← had] at hcq
        have HD := lh hd.symm
        have HAD := lh had
        have hnI : (n : Int) ≤ 100000 := by omega
        have HJ := lh hjk
        clear hd hnb hnn hv had hjk
        go_wp2
        go_loopw [15] (fun iv wq => ∃ (i : Nat), i ≤ n ∧ iv = .int .i64 (i : Nat) ∧ Hid (L2 2 mcR ds es k 0 G Z w wq) ∧ wq.cell? ⟨bq, oq + j, none⟩ = some (.slice ad n c)) (fun iv _ => n - (intOf iv).toNat)
        case atStart => exact ⟨0, Nat.zero_le _, rfl, HL.out, hcq⟩
        case round =>
        clear HL hcq
        obtain ⟨i, hi, rfl, HL, hcq⟩ := hrel
        rename World => wq
        by_cases hin : i < n
        ·have hiI : (i : Int) < n := by omega
         have hcg := HL.out.cell j (by rw [HE.out]; exact HJ.out)
         have hre := HL.out.roomE j (by rw [HE.out]; exact HJ.out)
         have hfe := HL.out.fillE j (by rw [HE.out]; exact HJ.out)
         have hn2 := HL.out.nE j (by rw [HE.out]; exact HJ.out)
         have hrd := HL.out.room j HJ.out
         have hfd := HL.out.fill j HJ.out
         obtain ⟨⟨p2, n2, c2⟩, he⟩ : ∃ d, d = dg es j := ⟨_, rfl⟩
         rw [← he] at hcg hre hfe hn2
         rw [HD.out] at hfe hn2 hrd hfd
         simp only at hn2
         subst hn2
         obtain ⟨b2, hb2⟩ := room_some hre (by simp only; omega)
         obtain ⟨b, hb⟩ := room_some hrd (by simp only; omega)
         simp only at hb hb2
         subst hb2
         subst hb
         rw [val_some] at hcg
         have had := HAD.out
         rw [show D.ad ⟨some b, n, c⟩ = some ⟨b, 0, none⟩ from rfl] at had
         subst had
         obtain ⟨x, hx⟩ : ∃ x, x = mk j i := ⟨_, rfl⟩
         have hx1 := mrow_cell mcR_length hfd rfl hin (show 0 < 2 by omega) (show (mcR j i)[0]? = some (.int .i64 x) by rw [hx]; rfl)
         have hx2 := mrow_cell mcR_length hfd rfl hin (show 1 < 2 by omega) (show (mcR j i)[1]? = some (.int .i64 0) from rfl)
         have hx3 := mrow_cell mcR_length hfe rfl (show i < n + 0 from hin) (show 0 < 2 by omega) (show (mcR j i)[0]? = some (.int .i64 x) by rw [hx]; rfl)
         have hx4 := mrow_cell mcR_length hfe rfl (show i < n + 0 from hin) (show 1 < 2 by omega) (show (mcR j i)[1]? = some (.int .i64 0) from rfl)
         rw [Nat.add_zero] at hx1 hx3
         have HMR := lh (fun W => markRange2_any j i W (by have := HJ.out; omega) (by omega))
         rw [← hx] at HMR
         have hgd := frange_guard
         have heq := fun W => fequal_range 9998 x 0 x 0 W
         rw [show (x == x && (0 : Int) == 0) = true by simp] at heq
         have hcJ : (n : Int) + 64 ≤ c2 := by have := hre.le; simp only at this; omega
         have hnJ : (i : Int) < (n : Int) + 64 := by omega
         clear hfe hfd hre hrd hx he
         go_wp2
         have HKP : Hid (KpB (fun W => W.cell? ⟨bq, oq + j, none⟩ = some (.slice (some ⟨b, 0, none⟩) n c) ∧ W.cell? ⟨G, j, none⟩ = some (.slice (some ⟨b2, 0, none⟩) (n + 64) c2) ∧ W.cell? ⟨b, i * 2, none⟩ = some (.int .i64 x) ∧ W.cell? ⟨b, i * 2 + 1, none⟩ = some (.int .i64 0) ∧ W.cell? ⟨b2, i * 2, none⟩ = some (.int .i64 x) ∧ W.cell? ⟨b2, i * 2 + 1, none⟩ = some (.int .i64 0) ∧ Hid (L2 2 mcR ds es k 0 G Z w W))) := fun V w6 ⟨h1, h2, h3, h4, h5, h6, h7⟩ hb6 => And.intro (fkeep_cell hb6 h1) (And.intro (fkeep_cell hb6 h2) (And.intro (fkeep_cell hb6 h3) (And.intro (fkeep_cell hb6 h4) (And.intro (fkeep_cell hb6 h5) (And.intro (fkeep_cell hb6 h6) (lh (L2.below h7.out hb6 HM.out)))))))
         refine quiet_kp HKP ⟨hcq, hcg, hx1, hx2, hx3, hx4, HL.out.below ((Below.refl _ _).drew) HM.out⟩ (by kernel_rfl) (by kernel_rfl) ?_
         iterate 9 (refine qw ?_; try simp only [Act.put, sb])
         (refine q_want (by kernel_rfl) (fun K hK => ?_); refine ⟨.agg #[.int .i64 x, .int .i64 0], fun V hV => ?_, hK _ ?_⟩; (focus (have HV := lh hV; clear hV; unfold Oper.quietAt; go_simp; refine (HMR.out _).mono ?_; rintro er w6 ⟨rfl, hb6⟩; exact ⟨rfl, HKP.out _ _ HV.out hb6⟩)); clear hK K; (try simp only [Act.put, sb]))
         iterate 12 (refine qw ?_; try simp only [Act.put, sb])
         (refine q_want (by kernel_rfl) (fun K hK => ?_); refine ⟨.agg #[.int .i64 x, .int .i64 0], fun V hV => ?_, hK _ ?_⟩; (focus (have HV := lh hV; clear hV; unfold Oper.quietAt; go_simp; refine (HMR.out _).mono ?_; rintro er w6 ⟨rfl, hb6⟩; exact ⟨rfl, HKP.out _ _ HV.out hb6⟩)); clear hK K; (try simp only [Act.put, sb]))
         iterate 3 (refine qw ?_; try simp only [Act.put, sb])
         refine ⟨wpQuiet_nil ?_⟩
         intro w6 hHeld22
         clear HKP
         go_wp2
         go_roundw
         case rel => exact ⟨i + 1, by omega, by go_num, hHeld22.2.2.2.2.2.2, hHeld22.1⟩
         case measure => simp [intOf]; omega
        ·have hiI : (n : Int) ≤ i := by omega
         go_wp2
         go_roundw
         case rel => exact ⟨j + 1, by have := HJ.out; omega, by go_num, HL.out⟩
         case measure => have := HJ.out; simp [intOf]; omega
       ·have hjI3 : (k : Int) ≤ j := by omega
        go_wp2
        go_ret
        exact ⟨rfl, HL.out.but⟩
end Go.Proofs.YtkefndfgkmdphaaGreat
