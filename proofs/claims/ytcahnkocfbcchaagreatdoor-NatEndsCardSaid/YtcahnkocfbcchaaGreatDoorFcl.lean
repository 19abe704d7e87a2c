/- The walk of the kit's flatLimbs at rows that lie apart. -/
import Derived.Test.YtcahnkocfbcchaaGreatDoorFb

namespace Go.Proofs.YtcahnkocfbcchaaGreatDoor
open Go.RowKit

def mcU (k i : Nat) : List Value := [.int .u32 (mk k i)]
theorem mcU_length (k i : Nat) : (mcU k i).length = 1 := rfl
theorem mk_lo (k i : Nat) : 0 ≤ mk k i := by unfold mk; omega
theorem mk_hi {k i : Nat} (h0 : k ≤ 1000) (h1 : i ≤ 1000000000) : mk k i ≤ 4294967295 := by unfold mk; omega
theorem finfo_U : (Tryz.prog.info? 46).map (fun i => (i.zero, i.size, i.bytes)) = some (some (.int .u32 0), 1, 4) := by kernel_rfl
theorem finfo_US : (Tryz.prog.info? 22).map (fun i => (i.zero, i.size, i.bytes)) = some (some (.slice none 0 0), 1, 24) := by kernel_rfl
theorem markU_any (k i : Nat) (w : World) (h0 : k ≤ 1000) (h1 : i ≤ 1000000) : Calls Tryz.prog 61 #[.int .i64 (k : Nat), .int .i64 (i : Nat)] w fun e w' => e = .returned (.int .i64 (mk k i)) ∧ Below w.heap.size w w' :=
  (mark2_any k i w h0 (by omega)).mono fun _ _ h => ⟨h.1, by rw [h.2]; exact Below.refl _ _⟩

set_option maxHeartbeats 12800000 in
set_option maxRecDepth 100000 in
theorem flatLimbs_any (q : Option Addr) (cq m : Nat) (ds : List D) (w : World) (hm : m = ds.length) (hq : SlD w q ds) (hr : ∀ k, k < m → Room w 1 (dg ds k)) (hfar : Far ds) (hm1 : m ≤ 130) (hn : ∀ k, k < m → (dg ds k).n ≤ 100000) :
    Calls Tryz.prog 78 #[.slice q m cq] w fun e w' => e = .returned (.bool true) ∧ But (InD ds) w w' := by
  have HM := Lib.hid hm
  have HQ := Lib.hid hq
  have HF := Lib.hid hfar
  have HN := Lib.hid hn
  have HDW : Hid (∀ b, InD ds b → b < w.heap.size) := fun b ⟨j, hj, e⟩ => (hr j (by omega)).lt b e
  obtain ⟨i0, hinf, hz0, hz1, hz2⟩ := finfo_parts finfo_U
  obtain ⟨i1, hinf1, hy0, hy1, hy2⟩ := finfo_parts finfo_US
  have HL := Lib.hid (show L1 1 mcU ds m w 0 w from ⟨But.refl _ _, hr, fun j hj => absurd hj (Nat.not_lt_zero j)⟩)
  have hmI : (m : Int) ≤ 130 := by omega
  clear hm hq hr hfar hn
  go_enter Tryz.func78, Tryz.ntmps78
  go_wp2
  go_loopw [3] (fun kv wr => ∃ (k : Nat), k ≤ m ∧ kv = .int .i64 (k : Nat) ∧ Hid (L1 1 mcU ds m w k wr)) (fun kv _ => m - (intOf kv).toNat)
  case atStart => exact ⟨0, Nat.zero_le _, rfl, HL.out⟩
  case round =>
    clear HL
    obtain ⟨k, hk, rfl, HL⟩ := hrel
    rename World => wr
    by_cases hkm : k < m
    · have hkI : (k : Int) < m := by omega
      obtain ⟨bq, oq, rfl, hcq, hnb, _⟩ := slD_at (slD_but HQ.out HL.out.but) (show k < ds.length by have := HM.out; omega)
      obtain ⟨⟨p, n, c⟩, hd⟩ : ∃ d, d = dg ds k := ⟨_, rfl⟩
      have hnn := HN.out k hkm
      rw [← hd] at hcq hnn
      simp only [D.val, D.ad] at hcq hnn
      obtain ⟨ad, had⟩ : ∃ ad, ad = p.map fun b => (⟨b, 0, none⟩ : Addr) := ⟨_, rfl⟩
      rw [← had] at hcq
      have HD := Lib.hid hd.symm
      have HAD := Lib.hid had
      have HNB := Lib.hid hnb
      have hnI : (n : Int) ≤ 100000 := by omega
      clear hd had hnb hnn
      go_wp2
      go_loopw [4] (fun iv wq => ∃ (i : Nat), i ≤ n ∧ iv = .int .i64 (i : Nat) ∧ Hid (L1 1 mcU ds m w k wq) ∧ Hid (Fill wq (dg ds k) (mrow mcU k i)) ∧ wq.cell? ⟨bq, oq + k, none⟩ = some (.slice ad n c)) (fun iv _ => n - (intOf iv).toNat)
      case atStart => exact ⟨0, Nat.zero_le _, rfl, HL.out, (fun b hb j u hu => by simp [mrow] at hu), hcq⟩
      case round =>
        clear HL hcq
        obtain ⟨i, hi, rfl, HL, HFI, hcq⟩ := hrel
        rename World => wq
        by_cases hin : i < n
        · have hiI : (i : Int) < n := by omega
          obtain ⟨b, hb⟩ := room_some (HL.out.room k hkm) (by rw [HD.out]; simp only; omega)
          rw [HD.out] at hb
          simp only at hb
          subst hb
          have had := HAD.out
          simp only [Option.map_some] at had
          subst had
          have hroom := HL.out.room k hkm
          rw [HD.out] at hroom
          obtain ⟨s0, f0⟩ := hroom.cell b rfl i (by have := hroom.le; simp only at this ⊢; omega)
          obtain ⟨u0, hu0⟩ := Option.isSome_iff_exists.1 s0
          obtain ⟨x, hx⟩ : ∃ x, x = mk k i := ⟨_, rfl⟩
          have HMR := Lib.hid (fun W => markU_any k i W (by omega) (by omega))
          rw [← hx] at HMR
          have hx0 : 0 ≤ x := by rw [hx]; exact mk_lo _ _
          have hx4 : x ≤ 4294967295 := by rw [hx]; exact mk_hi (by first | omega | (have := HJ.out; omega) | (have := HI.out; omega)) (by first | omega | (have := HI.out; omega))
          have hwx : IntKind.u32.wrap x = x := by rw [IntKind.wrap_u32]; omega
          have HX := Lib.hid hx
          clear hroom s0 hx
          go_wp2
          go_region_with (go_at_call 61; refine (HMR.out _).mono ?_; rintro e w6 ⟨rfl, hb6⟩; have hcq6 := fkeep_cell hb6 hcq; have hu06 := fkeep_cell hb6 hu0; have f06 := fkeep_frozen hb6 hu0 f0; have HB6 := Lib.hid hb6; clear hb6)
          all_goals
            have hL6 : L1 1 mcU ds m w k w6 := HL.out.below (fl_drew HB6.out)
            have hF6 : Fill w6 (dg ds k) (mrow mcU k i) := HFI.out.below (HL.out.room k hkm) (fl_drew HB6.out)
            have hnew := mark_one mcU_length (w' := w6.setCell ⟨b, i, none⟩ (.int .u32 x)) HM.out HF.out hL6 hkm HD.out hin hF6 (by rw [HX.out, Nat.mul_one]; rfl)
            have HNEW := Lib.hid hnew
            have hcn := slD_cell (slD_but HQ.out hnew.1.but) (show k < ds.length by have := HM.out; omega)
            rw [HD.out, val_some] at hcn
            clear hL6 hF6 hnew
            go_wp2
            go_roundw
          case rel => exact ⟨i + 1, by omega, by go_num, HNEW.out.1, HNEW.out.2, hcn⟩
          case measure => simp [intOf]; omega
          case rel => exact ⟨i + 1, by omega, by go_num, HNEW.out.1, HNEW.out.2, hcn⟩
          case measure => simp [intOf]; omega
        · have hiI : (n : Int) ≤ i := by omega
          obtain rfl : i = n := by omega
          go_wp2
          go_roundw
          case rel => exact ⟨k + 1, by omega, by go_num, ⟨HL.out.but, HL.out.room, fun j hj hjm => by
            by_cases e : j = k
            · subst e; have := HFI.out; rw [HD.out] at this ⊢; exact this
            · exact HL.out.fill j (by omega) hjm⟩⟩
          case measure => simp [intOf]; omega
    · have hkI : (m : Int) ≤ k := by omega
      obtain rfl : k = m := by omega
      go_wp2_with (at_make; refine wpList_make_full _ rfl _ _ 81 rfl wr.heap.size 22 i1 (.slice none 0 0) 1 Tryz.underlying81 hinf1 hy0 hy1 .i64 .i64 _ _ k rfl rfl rfl rfl (by rw [hy2]; omega) (by simp only [maxLen]; omega) (Nat.le_refl _) ?_; intro w2 ho2 hg2)
      have hL2 : L2 1 mcU ds [] k 64 wr.heap.size w2.heap.size w w2 := L2.start HL.out hg2 ho2 HM.out HDW.out
      have HL2 := Lib.hid hL2
      clear hL2 ho2 hg2 HL
      generalize wr.heap.size = G at *
      generalize hZ : w2.heap.size = Z at *
      clear hZ wr
      go_loopw [6] (fun kv wr => ∃ (j : Nat) (es : List D), j ≤ k ∧ kv = .int .i64 (j : Nat) ∧ Hid (es.length = j) ∧ Hid (L2 1 mcU ds es k 64 G Z w wr)) (fun kv _ => k - (intOf kv).toNat)
      case atStart => exact ⟨0, [], Nat.zero_le _, rfl, rfl, HL2.out⟩
      case round =>
        clear HL2
        obtain ⟨j, es, hj, rfl, HE, HL⟩ := hrel
        rename World => wr
        by_cases hjk : j < k
        · have hjI : (j : Int) < k := by omega
          obtain ⟨bq, oq, rfl, hcq, hnb, _⟩ := slD_at (slD_but HQ.out HL.out.but) (show j < ds.length by have := HM.out; omega)
          obtain ⟨⟨p, n, c⟩, hd⟩ : ∃ d, d = dg ds j := ⟨_, rfl⟩
          have hnn := HN.out j hjk
          rw [← hd] at hcq hnn
          simp only at hnn
          have hv : D.val ⟨p, n, c⟩ = .slice (D.ad ⟨p, n, c⟩) n c := rfl
          rw [hv] at hcq
          obtain ⟨ad, had⟩ : ∃ ad, ad = D.ad ⟨p, n, c⟩ := ⟨_, rfl⟩
          rw [← had] at hcq
          have HD := Lib.hid hd.symm
          have HAD := Lib.hid had
          have hnI : (n : Int) ≤ 100000 := by omega
          have HAT : Hid (At2 ds es j G Z wr ⟨p, n, c⟩) := by have := HL.out.at0 (by rw [HE.out]; exact hjk); rw [HE.out, HD.out] at this; exact this
          have HRM : Hid (Room wr 1 ⟨p, n, c⟩) := by have := HL.out.room j hjk; rw [HD.out] at this; exact this
          have HFI : Hid (Fill wr ⟨p, n, c⟩ (mrow mcU j (n + 0))) := by have := HL.out.fill j hjk; rw [HD.out] at this; exact this
          have HJ := Lib.hid hjk
          clear hd hnb hnn hv had hjk
          go_wp2
          go_loopw [7, 8] (fun gv iv wq => ∃ (i : Nat) (e : D), i ≤ 64 ∧ gv = e.val ∧ iv = .int .i64 (i : Nat) ∧ Hid (L2 1 mcU ds es k 64 G Z w wq) ∧ Hid (At2 ds es j G Z wq e) ∧ Hid (Room wq 1 e) ∧ Hid (Fill wq e (mrow mcU j (n + i))) ∧ Hid (e.n = n + i) ∧ wq.cell? ⟨bq, oq + j, none⟩ = some (.slice ad n c)) (fun _ iv _ => 64 - (intOf iv).toNat)
          case atStart => exact ⟨0, ⟨p, n, c⟩, Nat.zero_le _, (by rw [HAD.out]; rfl), rfl, HL.out, HAT.out, HRM.out, HFI.out, rfl, hcq⟩
          case round =>
            clear HL HAT HRM HFI hcq
            obtain ⟨i, e, hi, rfl, rfl, HL, HAT, HRM, HFI, HEN, hcq⟩ := hrel
            rename World => wq
            by_cases hi64 : i < 64
            · have hiI : (i : Int) < 64 := by omega
              have hen := HEN.out
              obtain ⟨x, hx⟩ : ∃ x, x = mk j (n + i) := ⟨_, rfl⟩
              have HMR : Hid (∀ (W : World) (z : Int), z = (n : Int) + i → Calls Tryz.prog 61 #[.int .i64 (j : Nat), .int .i64 z] W fun e w' => e = .returned (.int .i64 x) ∧ Below W.heap.size W w') := by
                rintro W z rfl
                have := markU_any j (n + i) W (by omega) (by omega)
                rw [← hx] at this
                rw [← Int.natCast_add]; exact this
              have hx0 : 0 ≤ x := by rw [hx]; exact mk_lo _ _
              have hx4 : x ≤ 4294967295 := by rw [hx]; exact mk_hi (by first | omega | (have := HJ.out; omega) | (have := HI.out; omega)) (by first | omega | (have := HI.out; omega))
              have hwx : IntKind.u32.wrap x = x := by rw [IntKind.wrap_u32]; omega
              have HX := Lib.hid hx
              have HI := Lib.hid hi64
              have HNI := Lib.hid (show n ≤ 100000 by omega)
              have HEB := Lib.hid (show e.n ≤ 100100 by omega)
              clear hx hi64 hen hi
              go_wp2_with (first
                | (go_at_call 61; refine (HMR.out _ _ (by first | rfl | omega)).mono ?_; rintro er w6 ⟨rfl, hb6⟩; have HB6 := Lib.hid hb6; clear hb6)
                | (at_builtin; refine wpList_append_far rfl _ _ 22 rfl 46 i0 (.int .u32 0) 1 4 Tryz.underlying22 hinf hz0 hz1 hz2 rfl (by decide) e rfl ((HRM.out.below HB6.out).below ((Below.refl _ _).alloc (Nat.le_refl _) _)) _ ?c1 ((HFI.out.below HRM.out HB6.out).below (HRM.out.below HB6.out) ((Below.refl _ _).alloc (Nat.le_refl _) _)) ⟨w6.heap.size, 0, none⟩ 1 1 [.int .u32 x] rfl rfl (one_new _ _ _) (by simp [Value.oneCell']) (by decide) ?c2 ?c3 ?_))
              case c1 => rw [mrow_length mcU_length, HEN.out]
              case c2 => have := HEB.out; simp only [maxLen]; omega
              case c3 => have := HEB.out; omega
              intro e' w7 hgr
              have hL6 := (HL.out.below HB6.out HM.out).below ((Below.refl w6.heap.size w6).alloc (Nat.le_refl _) (.cells #[.int .u32 x] 46)) HM.out
              have hstep := hL6.grewAt HM.out HF.out HE.out HJ.out HAT.out.world (n := n) (by rw [HD.out]) (by have := HEN.out; omega) mcU_length hgr
              have HS := Lib.hid hstep
              have HFN : Hid (Fill w7 e' (mrow mcU j (n + (i + 1)))) := by
                show Fill w7 e' _
                have := HS.out.2.2.2.1
                rw [← Nat.add_assoc, mrow_succ]
                rw [show mcU j (n + i) = [.int .u32 x] by rw [HX.out]; rfl]
                exact this
              have HEN2 : Hid (e'.n = n + (i + 1)) := by have := HS.out.2.2.2.2; have := HEN.out; show _ = _; omega
              have hcn := slD_cell (slD_but HQ.out hstep.1.but) (show j < ds.length by have := HM.out; have := HJ.out; omega)
              rw [HD.out, show D.val ⟨p, n, c⟩ = .slice ad n c by rw [HAD.out]; rfl] at hcn
              clear hL6 hstep hgr hcq
              go_wp2
              go_roundw
              case rel => exact ⟨i + 1, e', by have := HI.out; omega, rfl, by go_num, HS.out.1, HS.out.2.1, HS.out.2.2.1, HFN, HEN2, hcn⟩
              case measure => have := HI.out; simp [intOf]; omega
            · have hiI : (64 : Int) ≤ i := by omega
              obtain rfl : i = 64 := by omega
              obtain ⟨p', n', c'⟩ := e
              obtain ⟨ad', had'⟩ : ∃ a, a = D.ad ⟨p', n', c'⟩ := ⟨_, rfl⟩
              rw [show D.val ⟨p', n', c'⟩ = .slice ad' n' c' by rw [had']; rfl]
              obtain ⟨f1, f2⟩ := HL.out.free j HJ.out
              obtain ⟨u0, hu0⟩ := Option.isSome_iff_exists.1 f1
              have hput := HL.out.putAt HM.out HE.out HJ.out HAT.out (n := n) (by rw [HD.out]) HRM.out HFI.out HEN.out
              rw [show D.val ⟨p', n', c'⟩ = .slice ad' n' c' by rw [had']; rfl] at hput
              have HPUT := Lib.hid hput
              clear had' hput f1 hcq
              go_wp2
              go_roundw
              case rel => exact ⟨j + 1, _, by have := HJ.out; omega, by go_num, HPUT.out.2, HPUT.out.1⟩
              case measure => have := HJ.out; simp [intOf]; omega
        · have hjI : (k : Int) ≤ j := by omega
          obtain rfl : k = j := by omega
          clear hj
          go_wp2
          go_loopw [9] (fun kv wr => ∃ (j : Nat), j ≤ k ∧ kv = .int .i64 (j : Nat) ∧ Hid (L2 1 mcU ds es k 64 G Z w wr)) (fun kv _ => k - (intOf kv).toNat)
          case atStart => exact ⟨0, Nat.zero_le _, rfl, HL.out⟩
          case round =>
          clear HL
          obtain ⟨j, hj, rfl, HL⟩ := hrel
          rename World => wr
          by_cases hjk : j < k
          · have hjI2 : (j : Int) < k := by omega
            obtain ⟨bq, oq, rfl, hcq, hnb, _⟩ := slD_at (slD_but HQ.out HL.out.but) (show j < ds.length by have := HM.out; omega)
            obtain ⟨⟨p, n, c⟩, hd⟩ : ∃ d, d = dg ds j := ⟨_, rfl⟩
            obtain ⟨⟨p2, n2, c2⟩, he⟩ : ∃ d, d = dg es j := ⟨_, rfl⟩
            have hnn := HN.out j hjk
            have hn2 := HL.out.nE j (by rw [HE.out]; exact hjk)
            have hcg := HL.out.cell j (by rw [HE.out]; exact hjk)
            have hre := HL.out.roomE j (by rw [HE.out]; exact hjk)
            rw [← hd] at hcq hnn hn2
            rw [← he] at hn2 hcg hre
            simp only at hnn hn2
            subst hn2
            obtain ⟨b2, hb2⟩ := room_some hre (by simp only; omega)
            simp only at hb2
            subst hb2
            rw [val_some] at hcg
            have hv : D.val ⟨p, n, c⟩ = .slice (D.ad ⟨p, n, c⟩) n c := rfl
            rw [hv] at hcq
            obtain ⟨ad, had⟩ : ∃ ad, ad = D.ad ⟨p, n, c⟩ := ⟨_, rfl⟩
            rw [← had] at hcq
            have HD := Lib.hid hd.symm
            have HED := Lib.hid he.symm
            have HAD := Lib.hid had
            have hnI : (n : Int) ≤ 100000 := by omega
            have hcI : (n : Int) + 64 ≤ c2 := by have := hre.le; simp only at this; omega
            have HJ := Lib.hid hjk
            clear hd he hnb hnn hv had hre hjk
            go_wp2
            go_loopw [10] (fun iv wq => ∃ (i : Nat), i ≤ n + 64 ∧ iv = .int .i64 (i : Nat) ∧ Hid (L2 1 mcU ds es k 64 G Z w wq) ∧ wq.cell? ⟨bq, oq + j, none⟩ = some (.slice ad n c) ∧ wq.cell? ⟨G, j, none⟩ = some (.slice (some ⟨b2, 0, none⟩) (n + 64) c2)) (fun iv _ => n + 64 - (intOf iv).toNat)
            case atStart => exact ⟨0, Nat.zero_le _, rfl, HL.out, hcq, hcg⟩
            case round =>
              clear HL hcq hcg
              obtain ⟨i, hi, rfl, HL, hcq, hcg⟩ := hrel
              rename World => wq
              by_cases hi64 : i < n + 64
              · have hiI : (i : Int) < (n : Int) + 64 := by omega
                have hfe := HL.out.fillE j (by rw [HE.out]; exact HJ.out)
                rw [HED.out, HD.out] at hfe
                obtain ⟨x, hx⟩ : ∃ x, x = mk j i := ⟨_, rfl⟩
                have hx1 := mrow_cell mcU_length hfe rfl hi64 (show 0 < 1 by omega) (show (mcU j i)[0]? = some (.int .u32 x) by rw [hx]; rfl)
                rw [Nat.add_zero, Nat.mul_one] at hx1
                have HMR := Lib.hid (fun W => markU_any j i W (by have := HJ.out; omega) (by omega))
                rw [← hx] at HMR
                have hx0 : 0 ≤ x := by rw [hx]; exact mk_lo _ _
                have hx4 : x ≤ 4294967295 := by rw [hx]; exact mk_hi (by first | omega | (have := HJ.out; omega) | (have := HI.out; omega)) (by first | omega | (have := HI.out; omega))
                have hwx : IntKind.u32.wrap x = x := by rw [IntKind.wrap_u32]; omega
                have HX := Lib.hid hx
                clear hfe hx
                by_cases hin : i < n
                · have hiJ : (i : Int) < n := by omega
                  have hlt : decide ((i : Int) < n) = true := by rw [decide_eq_true_iff]; omega
                  have hltN : decide (i < n) = true := by rw [decide_eq_true_iff]; omega
                  have hroom := HL.out.room j HJ.out
                  obtain ⟨b, hb⟩ := room_some hroom (by rw [HD.out]; simp only; omega)
                  rw [HD.out] at hb hroom
                  simp only at hb
                  subst hb
                  have had := HAD.out
                  rw [show D.ad ⟨some b, n, c⟩ = some ⟨b, 0, none⟩ from rfl] at had
                  subst had
                  have hfd := HL.out.fill j HJ.out
                  rw [HD.out] at hfd
                  have hx3 := mrow_cell mcU_length hfd rfl hin (show 0 < 1 by omega) (show (mcU j i)[0]? = some (.int .u32 x) by rw [HX.out]; rfl)
                  rw [Nat.add_zero, Nat.mul_one] at hx3
                  clear hfd hroom
                  go_wp2
                  refine wp_region_held_drew (S := (fun W => W.cell? ⟨bq, oq + j, none⟩ = some (.slice (some ⟨b, 0, none⟩) n c) ∧ W.cell? ⟨G, j, none⟩ = some (.slice (some ⟨b2, 0, none⟩) (n + 64) c2) ∧ W.cell? ⟨b2, i, none⟩ = some (.int .u32 x) ∧ W.cell? ⟨b, i, none⟩ = some (.int .u32 x) ∧ Hid (L2 1 mcU ds es k 64 G Z w W))) (by kernel_rfl) ⟨hcq, hcg, hx1, hx3, HL.out.below ((Below.refl _ _).drew) HM.out⟩ (fun hHeld => ?_)
                  refine wpAnyH_take (i := 0) (oi := { dst := some 90, op := Op.move (Operand.tmp 5), type := 81, pos := "apart.go:67", after := #[], guard := none }) (v := ?_) rfl (by kernel_rfl) (by kernel_rfl) (by kernel_rfl) (fun _ _ _ h => h) (Or.inl ⟨by kernel_rfl, ?_⟩) hHeld ?_
                  rotate_left
                  focus (intro w hSw; (try dsimp only at hSw); go_simp; try with_reducible rfl)
                  try simp only [Act.put, List.setIfInBounds_toArray, List.set_cons_zero, List.set_cons_succ]
                  refine wpAnyH_take (i := 1) (oi := { dst := some 91, op := Op.move (Operand.tmp 9), type := 3, pos := "apart.go:67", after := #[], guard := none }) (v := ?_) rfl (by kernel_rfl) (by kernel_rfl) (by kernel_rfl) (fun _ _ _ h => h) (Or.inl ⟨by kernel_rfl, ?_⟩) hHeld ?_
                  rotate_left
                  focus (intro w hSw; (try dsimp only at hSw); go_simp; try with_reducible rfl)
                  try simp only [Act.put, List.setIfInBounds_toArray, List.set_cons_zero, List.set_cons_succ]
                  refine wpAnyH_take (i := 2) (oi := { dst := some 92, op := Op.indexAddr 81 (Operand.tmp 90) (Operand.tmp 91), type := 0, pos := "apart.go:67", after := #[{ on := 0, ground := Ground.data }, { on := 1, ground := Ground.data }], guard := none }) (v := ?_) rfl (by kernel_rfl) (by kernel_rfl) (by kernel_rfl) (fun _ _ _ h => h) (Or.inl ⟨by kernel_rfl, ?_⟩) hHeld ?_
                  rotate_left
                  focus (intro w hSw; (try dsimp only at hSw); go_simp; try with_reducible rfl)
                  try simp only [Act.put, List.setIfInBounds_toArray, List.set_cons_zero, List.set_cons_succ]
                  refine wpAnyH_take (i := 3) (oi := { dst := some 93, op := Op.load 22 (Operand.tmp 92), type := 22, pos := "apart.go:67", after := #[{ on := 2, ground := Ground.data }], guard := none }) (v := ?_) rfl (by kernel_rfl) (by kernel_rfl) (by kernel_rfl) (fun _ _ _ h => h) (Or.inl ⟨by kernel_rfl, ?_⟩) hHeld ?_
                  rotate_left
                  focus (intro w hSw; (try dsimp only at hSw); go_simp; try with_reducible rfl)
                  try simp only [Act.put, List.setIfInBounds_toArray, List.set_cons_zero, List.set_cons_succ]
                  refine wpAnyH_take (i := 4) (oi := { dst := some 94, op := Op.move (Operand.tmp 10), type := 3, pos := "apart.go:67", after := #[], guard := none }) (v := ?_) rfl (by kernel_rfl) (by kernel_rfl) (by kernel_rfl) (fun _ _ _ h => h) (Or.inl ⟨by kernel_rfl, ?_⟩) hHeld ?_
                  rotate_left
                  focus (intro w hSw; (try dsimp only at hSw); go_simp; try with_reducible rfl)
                  try simp only [Act.put, List.setIfInBounds_toArray, List.set_cons_zero, List.set_cons_succ]
                  refine wpAnyH_take (i := 5) (oi := { dst := some 95, op := Op.indexAddr 22 (Operand.tmp 93) (Operand.tmp 94), type := 0, pos := "apart.go:67", after := #[{ on := 3, ground := Ground.data }, { on := 4, ground := Ground.data }], guard := none }) (v := ?_) rfl (by kernel_rfl) (by kernel_rfl) (by kernel_rfl) (fun _ _ _ h => h) (Or.inl ⟨by kernel_rfl, ?_⟩) hHeld ?_
                  rotate_left
                  focus (intro w hSw; (try dsimp only at hSw); go_simp; try with_reducible rfl)
                  try simp only [Act.put, List.setIfInBounds_toArray, List.set_cons_zero, List.set_cons_succ]
                  refine wpAnyH_take (i := 6) (oi := { dst := some 96, op := Op.load 46 (Operand.tmp 95), type := 46, pos := "apart.go:67", after := #[{ on := 5, ground := Ground.data }], guard := none }) (v := ?_) rfl (by kernel_rfl) (by kernel_rfl) (by kernel_rfl) (fun _ _ _ h => h) (Or.inl ⟨by kernel_rfl, ?_⟩) hHeld ?_
                  rotate_left
                  focus (intro w hSw; (try dsimp only at hSw); go_simp; try with_reducible rfl)
                  try simp only [Act.put, List.setIfInBounds_toArray, List.set_cons_zero, List.set_cons_succ]
                  refine wpAnyH_take (i := 7) (oi := { dst := some 97, op := Op.move (Operand.tmp 9), type := 3, pos := "apart.go:67", after := #[], guard := none }) (v := ?_) rfl (by kernel_rfl) (by kernel_rfl) (by kernel_rfl) (fun _ _ _ h => h) (Or.inl ⟨by kernel_rfl, ?_⟩) hHeld ?_
                  rotate_left
                  focus (intro w hSw; (try dsimp only at hSw); go_simp; try with_reducible rfl)
                  try simp only [Act.put, List.setIfInBounds_toArray, List.set_cons_zero, List.set_cons_succ]
                  refine wpAnyH_take (i := 8) (oi := { dst := some 98, op := Op.move (Operand.tmp 10), type := 3, pos := "apart.go:67", after := #[], guard := none }) (v := ?_) rfl (by kernel_rfl) (by kernel_rfl) (by kernel_rfl) (fun _ _ _ h => h) (Or.inl ⟨by kernel_rfl, ?_⟩) hHeld ?_
                  rotate_left
                  focus (intro w hSw; (try dsimp only at hSw); go_simp; try with_reducible rfl)
                  try simp only [Act.put, List.setIfInBounds_toArray, List.set_cons_zero, List.set_cons_succ]
                  refine wpAnyH_ready (rs := [9]) (by kernel_rfl) (by simp) ?_
                  refine AllReadyH.cons (o := { dst := some 99, op := Op.call { callee := Callee.value (Operand.func 61), args := #[Operand.tmp 97, Operand.tmp 98], argTypes := #[3, 3] }, type := 3, pos := "apart.go:67", after := #[{ on := 7, ground := Ground.data }, { on := 8, ground := Ground.data }], guard := none }) rfl (fun K hK => ?_) AllReadyH.nil
                  go_simp
                  go_at_call 61
                  refine (HMR.out _).mono ?_
                  rintro er w6 ⟨rfl, hb6⟩
                  obtain ⟨h1, h2, h3, h4, h5⟩ := id hHeld
                  have hS6 := And.intro (fkeep_cell hb6 h1) (And.intro (fkeep_cell hb6 h2) (And.intro (fkeep_cell hb6 h3) (And.intro (fkeep_cell hb6 h4) (Lib.hid (L2.below h5.out hb6 HM.out)))))
                  clear hb6 h1 h2 h3 h4 h5
                  try go_wp2_with fail
                  refine hK.out _ _ hS6 (fun hHeld2 => ?_)
                  clear hK K hS6
                  try simp only [Act.put, List.setIfInBounds_toArray, List.set_cons_zero, List.set_cons_succ]
                  refine wpAnyH_take (i := 10) (oi := { dst := some 100, op := Op.convert 3 46 (Operand.tmp 99), type := 46, pos := "apart.go:67", after := #[{ on := 9, ground := Ground.data }], guard := none }) (v := ?_) rfl (by kernel_rfl) (by kernel_rfl) (by kernel_rfl) (fun _ _ _ h => h) (Or.inl ⟨by kernel_rfl, ?_⟩) hHeld2 ?_
                  rotate_left
                  focus (intro w hSw; (try dsimp only at hSw); go_simp; try with_reducible rfl)
                  try simp only [Act.put, List.setIfInBounds_toArray, List.set_cons_zero, List.set_cons_succ]
                  refine wpAnyH_take (i := 11) (oi := { dst := some 101, op := Op.binOp BinOp.eql 46 (Operand.tmp 96) (Operand.tmp 100) 46, type := 4, pos := "apart.go:67", after := #[{ on := 6, ground := Ground.data }, { on := 10, ground := Ground.data }], guard := none }) (v := ?_) rfl (by kernel_rfl) (by kernel_rfl) (by kernel_rfl) (fun _ _ _ h => h) (Or.inl ⟨by kernel_rfl, ?_⟩) hHeld2 ?_
                  rotate_left
                  focus (intro w hSw; (try dsimp only at hSw); go_simp; try with_reducible rfl)
                  try simp only [Act.put, List.setIfInBounds_toArray, List.set_cons_zero, List.set_cons_succ]
                  refine wpAnyH_take (i := 12) (oi := { dst := some 102, op := Op.unOp UnOp.not 4 (Operand.tmp 101), type := 4, pos := "apart.go:67", after := #[{ on := 11, ground := Ground.data }], guard := none }) (v := ?_) rfl (by kernel_rfl) (by kernel_rfl) (by kernel_rfl) (fun _ _ _ h => h) (Or.inl ⟨by kernel_rfl, ?_⟩) hHeld2 ?_
                  rotate_left
                  focus (intro w hSw; (try dsimp only at hSw); go_simp; try with_reducible rfl)
                  try simp only [Act.put, List.setIfInBounds_toArray, List.set_cons_zero, List.set_cons_succ]
                  refine wpAnyH_take (i := 13) (oi := { dst := some 103, op := Op.move (Operand.tmp 102), type := 4, pos := "apart.go:67", after := #[{ on := 12, ground := Ground.data }, { on := 9, ground := Ground.chain }], guard := none }) (v := ?_) rfl (by kernel_rfl) (by kernel_rfl) (by kernel_rfl) (fun _ _ _ h => h) (Or.inl ⟨by kernel_rfl, ?_⟩) hHeld2 ?_
                  rotate_left
                  focus (intro w hSw; (try dsimp only at hSw); go_simp; try with_reducible rfl)
                  try simp only [Act.put, List.setIfInBounds_toArray, List.set_cons_zero, List.set_cons_succ]
                  refine wpAnyH_take (i := 14) (oi := { dst := some 104, op := Op.move (Operand.tmp 10), type := 3, pos := "apart.go:67", after := #[{ on := 13, ground := Ground.guard }], guard := some (13, false) }) (v := ?_) rfl (by kernel_rfl) (by kernel_rfl) (by kernel_rfl) (fun _ _ _ h => h) (Or.inl ⟨by kernel_rfl, ?_⟩) hHeld2 ?_
                  rotate_left
                  focus (intro w hSw; (try dsimp only at hSw); go_simp; try with_reducible rfl)
                  try simp only [Act.put, List.setIfInBounds_toArray, List.set_cons_zero, List.set_cons_succ]
                  refine wpAnyH_take (i := 15) (oi := { dst := some 105, op := Op.move (Operand.tmp 0), type := 81, pos := "apart.go:67", after := #[{ on := 13, ground := Ground.guard }], guard := some (13, false) }) (v := ?_) rfl (by kernel_rfl) (by kernel_rfl) (by kernel_rfl) (fun _ _ _ h => h) (Or.inl ⟨by kernel_rfl, ?_⟩) hHeld2 ?_
                  rotate_left
                  focus (intro w hSw; (try dsimp only at hSw); go_simp; try with_reducible rfl)
                  try simp only [Act.put, List.setIfInBounds_toArray, List.set_cons_zero, List.set_cons_succ]
                  refine wpAnyH_take (i := 16) (oi := { dst := some 106, op := Op.move (Operand.tmp 9), type := 3, pos := "apart.go:67", after := #[{ on := 13, ground := Ground.guard }], guard := some (13, false) }) (v := ?_) rfl (by kernel_rfl) (by kernel_rfl) (by kernel_rfl) (fun _ _ _ h => h) (Or.inl ⟨by kernel_rfl, ?_⟩) hHeld2 ?_
                  rotate_left
                  focus (intro w hSw; (try dsimp only at hSw); go_simp; try with_reducible rfl)
                  try simp only [Act.put, List.setIfInBounds_toArray, List.set_cons_zero, List.set_cons_succ]
                  refine wpAnyH_take (i := 17) (oi := { dst := some 107, op := Op.indexAddr 81 (Operand.tmp 105) (Operand.tmp 106), type := 0, pos := "apart.go:67", after := #[{ on := 15, ground := Ground.data }, { on := 16, ground := Ground.data }, { on := 13, ground := Ground.guard }], guard := some (13, false) }) (v := ?_) rfl (by kernel_rfl) (by kernel_rfl) (by kernel_rfl) (fun _ _ _ h => h) (Or.inl ⟨by kernel_rfl, ?_⟩) hHeld2 ?_
                  rotate_left
                  focus (intro w hSw; (try dsimp only at hSw); go_simp; try with_reducible rfl)
                  try simp only [Act.put, List.setIfInBounds_toArray, List.set_cons_zero, List.set_cons_succ]
                  refine wpAnyH_take (i := 18) (oi := { dst := some 108, op := Op.load 22 (Operand.tmp 107), type := 22, pos := "apart.go:67", after := #[{ on := 17, ground := Ground.data }, { on := 13, ground := Ground.guard }], guard := some (13, false) }) (v := ?_) rfl (by kernel_rfl) (by kernel_rfl) (by kernel_rfl) (fun _ _ _ h => h) (Or.inl ⟨by kernel_rfl, ?_⟩) hHeld2 ?_
                  rotate_left
                  focus (intro w hSw; (try dsimp only at hSw); go_simp; try with_reducible rfl)
                  try simp only [Act.put, List.setIfInBounds_toArray, List.set_cons_zero, List.set_cons_succ]
                  refine wpAnyH_take (i := 19) (oi := { dst := some 109, op := Op.call { callee := Callee.builtin Builtin.len, args := #[Operand.tmp 108], argTypes := #[22] }, type := 3, pos := "apart.go:67", after := #[{ on := 18, ground := Ground.data }, { on := 13, ground := Ground.guard }], guard := some (13, false) }) (v := ?_) rfl (by kernel_rfl) (by kernel_rfl) (by kernel_rfl) (fun _ _ _ h => h) (Or.inl ⟨by kernel_rfl, ?_⟩) hHeld2 ?_
                  rotate_left
                  focus (intro w hSw; (try dsimp only at hSw); go_simp; try with_reducible rfl)
                  try simp only [Act.put, List.setIfInBounds_toArray, List.set_cons_zero, List.set_cons_succ]
                  refine wpAnyH_take (i := 20) (oi := { dst := some 110, op := Op.binOp BinOp.lss 3 (Operand.tmp 104) (Operand.tmp 109) 3, type := 4, pos := "apart.go:67", after := #[{ on := 14, ground := Ground.data }, { on := 19, ground := Ground.data }, { on := 13, ground := Ground.guard }], guard := some (13, false) }) (v := ?_) rfl (by kernel_rfl) (by kernel_rfl) (by kernel_rfl) (fun _ _ _ h => h) (Or.inl ⟨by kernel_rfl, ?_⟩) hHeld2 ?_
                  rotate_left
                  focus (intro w hSw; (try dsimp only at hSw); go_simp; try with_reducible rfl)
                  try simp only [Act.put, List.setIfInBounds_toArray, List.set_cons_zero, List.set_cons_succ]
                  refine wpAnyH_take (i := 21) (oi := { dst := some 111, op := Op.move (Operand.tmp 110), type := 4, pos := "apart.go:67", after := #[{ on := 20, ground := Ground.data }, { on := 13, ground := Ground.chain }, { on := 13, ground := Ground.guard }], guard := some (13, false) }) (v := ?_) rfl (by kernel_rfl) (by kernel_rfl) (by kernel_rfl) (fun _ _ _ h => h) (Or.inl ⟨by kernel_rfl, ?_⟩) hHeld2 ?_
                  rotate_left
                  focus (intro w hSw; (try dsimp only at hSw); go_simp; try with_reducible rfl)
                  try simp only [Act.put, List.setIfInBounds_toArray, List.set_cons_zero, List.set_cons_succ]
                  refine wpAnyH_take (i := 22) (oi := { dst := some 112, op := Op.move (Operand.tmp 0), type := 81, pos := "apart.go:67", after := #[{ on := 21, ground := Ground.guard }], guard := some (21, true) }) (v := ?_) rfl (by kernel_rfl) (by kernel_rfl) (by kernel_rfl) (fun _ _ _ h => h) (Or.inl ⟨by kernel_rfl, ?_⟩) hHeld2 ?_
                  rotate_left
                  focus (intro w hSw; (try dsimp only at hSw); go_simp; try with_reducible rfl)
                  try simp only [Act.put, List.setIfInBounds_toArray, List.set_cons_zero, List.set_cons_succ]
                  refine wpAnyH_take (i := 23) (oi := { dst := some 113, op := Op.move (Operand.tmp 9), type := 3, pos := "apart.go:67", after := #[{ on := 21, ground := Ground.guard }], guard := some (21, true) }) (v := ?_) rfl (by kernel_rfl) (by kernel_rfl) (by kernel_rfl) (fun _ _ _ h => h) (Or.inl ⟨by kernel_rfl, ?_⟩) hHeld2 ?_
                  rotate_left
                  focus (intro w hSw; (try dsimp only at hSw); go_simp; try with_reducible rfl)
                  try simp only [Act.put, List.setIfInBounds_toArray, List.set_cons_zero, List.set_cons_succ]
                  refine wpAnyH_take (i := 24) (oi := { dst := some 114, op := Op.indexAddr 81 (Operand.tmp 112) (Operand.tmp 113), type := 0, pos := "apart.go:67", after := #[{ on := 22, ground := Ground.data }, { on := 23, ground := Ground.data }, { on := 21, ground := Ground.guard }], guard := some (21, true) }) (v := ?_) rfl (by kernel_rfl) (by kernel_rfl) (by kernel_rfl) (fun _ _ _ h => h) (Or.inl ⟨by kernel_rfl, ?_⟩) hHeld2 ?_
                  rotate_left
                  focus (intro w hSw; (try dsimp only at hSw); go_simp; try with_reducible rfl)
                  try simp only [Act.put, List.setIfInBounds_toArray, List.set_cons_zero, List.set_cons_succ]
                  refine wpAnyH_take (i := 25) (oi := { dst := some 115, op := Op.load 22 (Operand.tmp 114), type := 22, pos := "apart.go:67", after := #[{ on := 24, ground := Ground.data }, { on := 21, ground := Ground.guard }], guard := some (21, true) }) (v := ?_) rfl (by kernel_rfl) (by kernel_rfl) (by kernel_rfl) (fun _ _ _ h => h) (Or.inl ⟨by kernel_rfl, ?_⟩) hHeld2 ?_
                  rotate_left
                  focus (intro w hSw; (try dsimp only at hSw); go_simp; try with_reducible rfl)
                  try simp only [Act.put, List.setIfInBounds_toArray, List.set_cons_zero, List.set_cons_succ]
                  refine wpAnyH_take (i := 26) (oi := { dst := some 116, op := Op.move (Operand.tmp 10), type := 3, pos := "apart.go:67", after := #[{ on := 21, ground := Ground.guard }], guard := some (21, true) }) (v := ?_) rfl (by kernel_rfl) (by kernel_rfl) (by kernel_rfl) (fun _ _ _ h => h) (Or.inl ⟨by kernel_rfl, ?_⟩) hHeld2 ?_
                  rotate_left
                  focus (intro w hSw; (try dsimp only at hSw); go_simp; try with_reducible rfl)
                  try simp only [Act.put, List.setIfInBounds_toArray, List.set_cons_zero, List.set_cons_succ]
                  refine wpAnyH_take (i := 27) (oi := { dst := some 117, op := Op.indexAddr 22 (Operand.tmp 115) (Operand.tmp 116), type := 0, pos := "apart.go:67", after := #[{ on := 25, ground := Ground.data }, { on := 26, ground := Ground.data }, { on := 21, ground := Ground.guard }], guard := some (21, true) }) (v := ?_) rfl (by kernel_rfl) (by kernel_rfl) (by kernel_rfl) (fun _ _ _ h => h) (Or.inl ⟨by kernel_rfl, ?_⟩) hHeld2 ?_
                  rotate_left
                  focus (intro w hSw; (try dsimp only at hSw); go_simp; try with_reducible rfl)
                  try simp only [Act.put, List.setIfInBounds_toArray, List.set_cons_zero, List.set_cons_succ]
                  refine wpAnyH_take (i := 28) (oi := { dst := some 118, op := Op.load 46 (Operand.tmp 117), type := 46, pos := "apart.go:67", after := #[{ on := 27, ground := Ground.data }, { on := 21, ground := Ground.guard }], guard := some (21, true) }) (v := ?_) rfl (by kernel_rfl) (by kernel_rfl) (by kernel_rfl) (fun _ _ _ h => h) (Or.inl ⟨by kernel_rfl, ?_⟩) hHeld2 ?_
                  rotate_left
                  focus (intro w hSw; (try dsimp only at hSw); go_simp; try with_reducible rfl)
                  try simp only [Act.put, List.setIfInBounds_toArray, List.set_cons_zero, List.set_cons_succ]
                  refine wpAnyH_take (i := 29) (oi := { dst := some 119, op := Op.move (Operand.tmp 9), type := 3, pos := "apart.go:67", after := #[{ on := 21, ground := Ground.guard }], guard := some (21, true) }) (v := ?_) rfl (by kernel_rfl) (by kernel_rfl) (by kernel_rfl) (fun _ _ _ h => h) (Or.inl ⟨by kernel_rfl, ?_⟩) hHeld2 ?_
                  rotate_left
                  focus (intro w hSw; (try dsimp only at hSw); go_simp; try with_reducible rfl)
                  try simp only [Act.put, List.setIfInBounds_toArray, List.set_cons_zero, List.set_cons_succ]
                  refine wpAnyH_take (i := 30) (oi := { dst := some 120, op := Op.move (Operand.tmp 10), type := 3, pos := "apart.go:67", after := #[{ on := 21, ground := Ground.guard }], guard := some (21, true) }) (v := ?_) rfl (by kernel_rfl) (by kernel_rfl) (by kernel_rfl) (fun _ _ _ h => h) (Or.inl ⟨by kernel_rfl, ?_⟩) hHeld2 ?_
                  rotate_left
                  focus (intro w hSw; (try dsimp only at hSw); go_simp; try with_reducible rfl)
                  try simp only [Act.put, List.setIfInBounds_toArray, List.set_cons_zero, List.set_cons_succ]
                  refine wpAnyH_ready (rs := [31]) (by kernel_rfl) (by simp) ?_
                  refine AllReadyH.cons (o := { dst := some 121, op := Op.call { callee := Callee.value (Operand.func 61), args := #[Operand.tmp 119, Operand.tmp 120], argTypes := #[3, 3] }, type := 3, pos := "apart.go:67", after := #[{ on := 29, ground := Ground.data }, { on := 30, ground := Ground.data }, { on := 21, ground := Ground.chain }, { on := 21, ground := Ground.guard }], guard := some (21, true) }) rfl (fun K hK => ?_) AllReadyH.nil
                  go_simp
                  go_at_call 61
                  refine (HMR.out _).mono ?_
                  rintro er w6 ⟨rfl, hb6⟩
                  obtain ⟨h1, h2, h3, h4, h5⟩ := id hHeld2
                  have hS6 := And.intro (fkeep_cell hb6 h1) (And.intro (fkeep_cell hb6 h2) (And.intro (fkeep_cell hb6 h3) (And.intro (fkeep_cell hb6 h4) (Lib.hid (L2.below h5.out hb6 HM.out)))))
                  clear hb6 h1 h2 h3 h4 h5
                  try go_wp2_with fail
                  refine hK.out _ _ hS6 (fun hHeld22 => ?_)
                  clear hK K hS6
                  try simp only [Act.put, List.setIfInBounds_toArray, List.set_cons_zero, List.set_cons_succ]
                  refine wpAnyH_take (i := 32) (oi := { dst := some 122, op := Op.convert 3 46 (Operand.tmp 121), type := 46, pos := "apart.go:67", after := #[{ on := 31, ground := Ground.data }, { on := 21, ground := Ground.guard }], guard := some (21, true) }) (v := ?_) rfl (by kernel_rfl) (by kernel_rfl) (by kernel_rfl) (fun _ _ _ h => h) (Or.inl ⟨by kernel_rfl, ?_⟩) hHeld22 ?_
                  rotate_left
                  focus (intro w hSw; (try dsimp only at hSw); go_simp; try with_reducible rfl)
                  try simp only [Act.put, List.setIfInBounds_toArray, List.set_cons_zero, List.set_cons_succ]
                  refine wpAnyH_take (i := 33) (oi := { dst := some 123, op := Op.binOp BinOp.eql 46 (Operand.tmp 118) (Operand.tmp 122) 46, type := 4, pos := "apart.go:67", after := #[{ on := 28, ground := Ground.data }, { on := 32, ground := Ground.data }, { on := 21, ground := Ground.guard }], guard := some (21, true) }) (v := ?_) rfl (by kernel_rfl) (by kernel_rfl) (by kernel_rfl) (fun _ _ _ h => h) (Or.inl ⟨by kernel_rfl, ?_⟩) hHeld22 ?_
                  rotate_left
                  focus (intro w hSw; (try dsimp only at hSw); go_simp; try with_reducible rfl)
                  try simp only [Act.put, List.setIfInBounds_toArray, List.set_cons_zero, List.set_cons_succ]
                  refine wpAnyH_take (i := 34) (oi := { dst := some 124, op := Op.unOp UnOp.not 4 (Operand.tmp 123), type := 4, pos := "apart.go:67", after := #[{ on := 33, ground := Ground.data }, { on := 21, ground := Ground.guard }], guard := some (21, true) }) (v := ?_) rfl (by kernel_rfl) (by kernel_rfl) (by kernel_rfl) (fun _ _ _ h => h) (Or.inl ⟨by kernel_rfl, ?_⟩) hHeld22 ?_
                  rotate_left
                  focus (intro w hSw; (try dsimp only at hSw); go_simp; try with_reducible rfl)
                  try simp only [Act.put, List.setIfInBounds_toArray, List.set_cons_zero, List.set_cons_succ]
                  refine wpAnyH_take (i := 35) (oi := { dst := some 125, op := Op.pick (Operand.tmp 111) (Operand.tmp 124) (Operand.const (Value.bool false)), type := 4, pos := "apart.go:67", after := #[{ on := 21, ground := Ground.data }, { on := 34, ground := Ground.data }, { on := 13, ground := Ground.guard }], guard := some (13, false) }) (v := ?_) rfl (by kernel_rfl) (by kernel_rfl) (by kernel_rfl) (fun _ _ _ h => h) (Or.inl ⟨by kernel_rfl, ?_⟩) hHeld22 ?_
                  rotate_left
                  focus (intro w hSw; (try dsimp only at hSw); go_simp; try with_reducible rfl)
                  try simp only [Act.put, List.setIfInBounds_toArray, List.set_cons_zero, List.set_cons_succ]
                  refine wpAnyH_take (i := 36) (oi := { dst := some 126, op := Op.pick (Operand.tmp 103) (Operand.const (Value.bool true)) (Operand.tmp 125), type := 4, pos := "apart.go:67", after := #[{ on := 13, ground := Ground.data }, { on := 35, ground := Ground.data }], guard := none }) (v := ?_) rfl (by kernel_rfl) (by kernel_rfl) (by kernel_rfl) (fun _ _ _ h => h) (Or.inl ⟨by kernel_rfl, ?_⟩) hHeld22 ?_
                  rotate_left
                  focus (intro w hSw; (try dsimp only at hSw); go_simp; try with_reducible rfl)
                  try simp only [Act.put, List.setIfInBounds_toArray, List.set_cons_zero, List.set_cons_succ]
                  refine wpAnyH_done (by kernel_rfl) ?_ _
                  go_wp2
                  go_roundw
                  case rel => exact ⟨i + 1, by omega, by go_num, hHeld22.2.2.2.2, hHeld22.1, hHeld22.2.1⟩
                  case measure => simp [intOf]; omega
                · have hiJ : (n : Int) ≤ i := by omega
                  have hlt : decide ((i : Int) < n) = false := by rw [decide_eq_false_iff_not]; omega
                  have hltN : decide (i < n) = false := by rw [decide_eq_false_iff_not]; omega
                  go_wp2
                  refine wp_region_held_drew (S := (fun W => W.cell? ⟨bq, oq + j, none⟩ = some (.slice ad n c) ∧ W.cell? ⟨G, j, none⟩ = some (.slice (some ⟨b2, 0, none⟩) (n + 64) c2) ∧ W.cell? ⟨b2, i, none⟩ = some (.int .u32 x) ∧ Hid (L2 1 mcU ds es k 64 G Z w W))) (by kernel_rfl) ⟨hcq, hcg, hx1, HL.out.below ((Below.refl _ _).drew) HM.out⟩ (fun hHeld => ?_)
                  refine wpAnyH_take (i := 0) (oi := { dst := some 90, op := Op.move (Operand.tmp 5), type := 81, pos := "apart.go:67", after := #[], guard := none }) (v := ?_) rfl (by kernel_rfl) (by kernel_rfl) (by kernel_rfl) (fun _ _ _ h => h) (Or.inl ⟨by kernel_rfl, ?_⟩) hHeld ?_
                  rotate_left
                  focus (intro w hSw; (try dsimp only at hSw); go_simp; try with_reducible rfl)
                  try simp only [Act.put, List.setIfInBounds_toArray, List.set_cons_zero, List.set_cons_succ]
                  refine wpAnyH_take (i := 1) (oi := { dst := some 91, op := Op.move (Operand.tmp 9), type := 3, pos := "apart.go:67", after := #[], guard := none }) (v := ?_) rfl (by kernel_rfl) (by kernel_rfl) (by kernel_rfl) (fun _ _ _ h => h) (Or.inl ⟨by kernel_rfl, ?_⟩) hHeld ?_
                  rotate_left
                  focus (intro w hSw; (try dsimp only at hSw); go_simp; try with_reducible rfl)
                  try simp only [Act.put, List.setIfInBounds_toArray, List.set_cons_zero, List.set_cons_succ]
                  refine wpAnyH_take (i := 2) (oi := { dst := some 92, op := Op.indexAddr 81 (Operand.tmp 90) (Operand.tmp 91), type := 0, pos := "apart.go:67", after := #[{ on := 0, ground := Ground.data }, { on := 1, ground := Ground.data }], guard := none }) (v := ?_) rfl (by kernel_rfl) (by kernel_rfl) (by kernel_rfl) (fun _ _ _ h => h) (Or.inl ⟨by kernel_rfl, ?_⟩) hHeld ?_
                  rotate_left
                  focus (intro w hSw; (try dsimp only at hSw); go_simp; try with_reducible rfl)
                  try simp only [Act.put, List.setIfInBounds_toArray, List.set_cons_zero, List.set_cons_succ]
                  refine wpAnyH_take (i := 3) (oi := { dst := some 93, op := Op.load 22 (Operand.tmp 92), type := 22, pos := "apart.go:67", after := #[{ on := 2, ground := Ground.data }], guard := none }) (v := ?_) rfl (by kernel_rfl) (by kernel_rfl) (by kernel_rfl) (fun _ _ _ h => h) (Or.inl ⟨by kernel_rfl, ?_⟩) hHeld ?_
                  rotate_left
                  focus (intro w hSw; (try dsimp only at hSw); go_simp; try with_reducible rfl)
                  try simp only [Act.put, List.setIfInBounds_toArray, List.set_cons_zero, List.set_cons_succ]
                  refine wpAnyH_take (i := 4) (oi := { dst := some 94, op := Op.move (Operand.tmp 10), type := 3, pos := "apart.go:67", after := #[], guard := none }) (v := ?_) rfl (by kernel_rfl) (by kernel_rfl) (by kernel_rfl) (fun _ _ _ h => h) (Or.inl ⟨by kernel_rfl, ?_⟩) hHeld ?_
                  rotate_left
                  focus (intro w hSw; (try dsimp only at hSw); go_simp; try with_reducible rfl)
                  try simp only [Act.put, List.setIfInBounds_toArray, List.set_cons_zero, List.set_cons_succ]
                  refine wpAnyH_take (i := 5) (oi := { dst := some 95, op := Op.indexAddr 22 (Operand.tmp 93) (Operand.tmp 94), type := 0, pos := "apart.go:67", after := #[{ on := 3, ground := Ground.data }, { on := 4, ground := Ground.data }], guard := none }) (v := ?_) rfl (by kernel_rfl) (by kernel_rfl) (by kernel_rfl) (fun _ _ _ h => h) (Or.inl ⟨by kernel_rfl, ?_⟩) hHeld ?_
                  rotate_left
                  focus (intro w hSw; (try dsimp only at hSw); go_simp; try with_reducible rfl)
                  try simp only [Act.put, List.setIfInBounds_toArray, List.set_cons_zero, List.set_cons_succ]
                  refine wpAnyH_take (i := 6) (oi := { dst := some 96, op := Op.load 46 (Operand.tmp 95), type := 46, pos := "apart.go:67", after := #[{ on := 5, ground := Ground.data }], guard := none }) (v := ?_) rfl (by kernel_rfl) (by kernel_rfl) (by kernel_rfl) (fun _ _ _ h => h) (Or.inl ⟨by kernel_rfl, ?_⟩) hHeld ?_
                  rotate_left
                  focus (intro w hSw; (try dsimp only at hSw); go_simp; try with_reducible rfl)
                  try simp only [Act.put, List.setIfInBounds_toArray, List.set_cons_zero, List.set_cons_succ]
                  refine wpAnyH_take (i := 7) (oi := { dst := some 97, op := Op.move (Operand.tmp 9), type := 3, pos := "apart.go:67", after := #[], guard := none }) (v := ?_) rfl (by kernel_rfl) (by kernel_rfl) (by kernel_rfl) (fun _ _ _ h => h) (Or.inl ⟨by kernel_rfl, ?_⟩) hHeld ?_
                  rotate_left
                  focus (intro w hSw; (try dsimp only at hSw); go_simp; try with_reducible rfl)
                  try simp only [Act.put, List.setIfInBounds_toArray, List.set_cons_zero, List.set_cons_succ]
                  refine wpAnyH_take (i := 8) (oi := { dst := some 98, op := Op.move (Operand.tmp 10), type := 3, pos := "apart.go:67", after := #[], guard := none }) (v := ?_) rfl (by kernel_rfl) (by kernel_rfl) (by kernel_rfl) (fun _ _ _ h => h) (Or.inl ⟨by kernel_rfl, ?_⟩) hHeld ?_
                  rotate_left
                  focus (intro w hSw; (try dsimp only at hSw); go_simp; try with_reducible rfl)
                  try simp only [Act.put, List.setIfInBounds_toArray, List.set_cons_zero, List.set_cons_succ]
                  refine wpAnyH_ready (rs := [9]) (by kernel_rfl) (by simp) ?_
                  refine AllReadyH.cons (o := { dst := some 99, op := Op.call { callee := Callee.value (Operand.func 61), args := #[Operand.tmp 97, Operand.tmp 98], argTypes := #[3, 3] }, type := 3, pos := "apart.go:67", after := #[{ on := 7, ground := Ground.data }, { on := 8, ground := Ground.data }], guard := none }) rfl (fun K hK => ?_) AllReadyH.nil
                  go_simp
                  go_at_call 61
                  refine (HMR.out _).mono ?_
                  rintro er w6 ⟨rfl, hb6⟩
                  obtain ⟨h1, h2, h3, h4⟩ := id hHeld
                  have hS6 := And.intro (fkeep_cell hb6 h1) (And.intro (fkeep_cell hb6 h2) (And.intro (fkeep_cell hb6 h3) (Lib.hid (L2.below h4.out hb6 HM.out))))
                  clear hb6 h1 h2 h3 h4
                  try go_wp2_with fail
                  refine hK.out _ _ hS6 (fun hHeld2 => ?_)
                  clear hK K hS6
                  try simp only [Act.put, List.setIfInBounds_toArray, List.set_cons_zero, List.set_cons_succ]
                  refine wpAnyH_take (i := 10) (oi := { dst := some 100, op := Op.convert 3 46 (Operand.tmp 99), type := 46, pos := "apart.go:67", after := #[{ on := 9, ground := Ground.data }], guard := none }) (v := ?_) rfl (by kernel_rfl) (by kernel_rfl) (by kernel_rfl) (fun _ _ _ h => h) (Or.inl ⟨by kernel_rfl, ?_⟩) hHeld2 ?_
                  rotate_left
                  focus (intro w hSw; (try dsimp only at hSw); go_simp; try with_reducible rfl)
                  try simp only [Act.put, List.setIfInBounds_toArray, List.set_cons_zero, List.set_cons_succ]
                  refine wpAnyH_take (i := 11) (oi := { dst := some 101, op := Op.binOp BinOp.eql 46 (Operand.tmp 96) (Operand.tmp 100) 46, type := 4, pos := "apart.go:67", after := #[{ on := 6, ground := Ground.data }, { on := 10, ground := Ground.data }], guard := none }) (v := ?_) rfl (by kernel_rfl) (by kernel_rfl) (by kernel_rfl) (fun _ _ _ h => h) (Or.inl ⟨by kernel_rfl, ?_⟩) hHeld2 ?_
                  rotate_left
                  focus (intro w hSw; (try dsimp only at hSw); go_simp; try with_reducible rfl)
                  try simp only [Act.put, List.setIfInBounds_toArray, List.set_cons_zero, List.set_cons_succ]
                  refine wpAnyH_take (i := 12) (oi := { dst := some 102, op := Op.unOp UnOp.not 4 (Operand.tmp 101), type := 4, pos := "apart.go:67", after := #[{ on := 11, ground := Ground.data }], guard := none }) (v := ?_) rfl (by kernel_rfl) (by kernel_rfl) (by kernel_rfl) (fun _ _ _ h => h) (Or.inl ⟨by kernel_rfl, ?_⟩) hHeld2 ?_
                  rotate_left
                  focus (intro w hSw; (try dsimp only at hSw); go_simp; try with_reducible rfl)
                  try simp only [Act.put, List.setIfInBounds_toArray, List.set_cons_zero, List.set_cons_succ]
                  refine wpAnyH_take (i := 13) (oi := { dst := some 103, op := Op.move (Operand.tmp 102), type := 4, pos := "apart.go:67", after := #[{ on := 12, ground := Ground.data }, { on := 9, ground := Ground.chain }], guard := none }) (v := ?_) rfl (by kernel_rfl) (by kernel_rfl) (by kernel_rfl) (fun _ _ _ h => h) (Or.inl ⟨by kernel_rfl, ?_⟩) hHeld2 ?_
                  rotate_left
                  focus (intro w hSw; (try dsimp only at hSw); go_simp; try with_reducible rfl)
                  try simp only [Act.put, List.setIfInBounds_toArray, List.set_cons_zero, List.set_cons_succ]
                  refine wpAnyH_take (i := 14) (oi := { dst := some 104, op := Op.move (Operand.tmp 10), type := 3, pos := "apart.go:67", after := #[{ on := 13, ground := Ground.guard }], guard := some (13, false) }) (v := ?_) rfl (by kernel_rfl) (by kernel_rfl) (by kernel_rfl) (fun _ _ _ h => h) (Or.inl ⟨by kernel_rfl, ?_⟩) hHeld2 ?_
                  rotate_left
                  focus (intro w hSw; (try dsimp only at hSw); go_simp; try with_reducible rfl)
                  try simp only [Act.put, List.setIfInBounds_toArray, List.set_cons_zero, List.set_cons_succ]
                  refine wpAnyH_take (i := 15) (oi := { dst := some 105, op := Op.move (Operand.tmp 0), type := 81, pos := "apart.go:67", after := #[{ on := 13, ground := Ground.guard }], guard := some (13, false) }) (v := ?_) rfl (by kernel_rfl) (by kernel_rfl) (by kernel_rfl) (fun _ _ _ h => h) (Or.inl ⟨by kernel_rfl, ?_⟩) hHeld2 ?_
                  rotate_left
                  focus (intro w hSw; (try dsimp only at hSw); go_simp; try with_reducible rfl)
                  try simp only [Act.put, List.setIfInBounds_toArray, List.set_cons_zero, List.set_cons_succ]
                  refine wpAnyH_take (i := 16) (oi := { dst := some 106, op := Op.move (Operand.tmp 9), type := 3, pos := "apart.go:67", after := #[{ on := 13, ground := Ground.guard }], guard := some (13, false) }) (v := ?_) rfl (by kernel_rfl) (by kernel_rfl) (by kernel_rfl) (fun _ _ _ h => h) (Or.inl ⟨by kernel_rfl, ?_⟩) hHeld2 ?_
                  rotate_left
                  focus (intro w hSw; (try dsimp only at hSw); go_simp; try with_reducible rfl)
                  try simp only [Act.put, List.setIfInBounds_toArray, List.set_cons_zero, List.set_cons_succ]
                  refine wpAnyH_take (i := 17) (oi := { dst := some 107, op := Op.indexAddr 81 (Operand.tmp 105) (Operand.tmp 106), type := 0, pos := "apart.go:67", after := #[{ on := 15, ground := Ground.data }, { on := 16, ground := Ground.data }, { on := 13, ground := Ground.guard }], guard := some (13, false) }) (v := ?_) rfl (by kernel_rfl) (by kernel_rfl) (by kernel_rfl) (fun _ _ _ h => h) (Or.inl ⟨by kernel_rfl, ?_⟩) hHeld2 ?_
                  rotate_left
                  focus (intro w hSw; (try dsimp only at hSw); go_simp; try with_reducible rfl)
                  try simp only [Act.put, List.setIfInBounds_toArray, List.set_cons_zero, List.set_cons_succ]
                  refine wpAnyH_take (i := 18) (oi := { dst := some 108, op := Op.load 22 (Operand.tmp 107), type := 22, pos := "apart.go:67", after := #[{ on := 17, ground := Ground.data }, { on := 13, ground := Ground.guard }], guard := some (13, false) }) (v := ?_) rfl (by kernel_rfl) (by kernel_rfl) (by kernel_rfl) (fun _ _ _ h => h) (Or.inl ⟨by kernel_rfl, ?_⟩) hHeld2 ?_
                  rotate_left
                  focus (intro w hSw; (try dsimp only at hSw); go_simp; try with_reducible rfl)
                  try simp only [Act.put, List.setIfInBounds_toArray, List.set_cons_zero, List.set_cons_succ]
                  refine wpAnyH_take (i := 19) (oi := { dst := some 109, op := Op.call { callee := Callee.builtin Builtin.len, args := #[Operand.tmp 108], argTypes := #[22] }, type := 3, pos := "apart.go:67", after := #[{ on := 18, ground := Ground.data }, { on := 13, ground := Ground.guard }], guard := some (13, false) }) (v := ?_) rfl (by kernel_rfl) (by kernel_rfl) (by kernel_rfl) (fun _ _ _ h => h) (Or.inl ⟨by kernel_rfl, ?_⟩) hHeld2 ?_
                  rotate_left
                  focus (intro w hSw; (try dsimp only at hSw); go_simp; try with_reducible rfl)
                  try simp only [Act.put, List.setIfInBounds_toArray, List.set_cons_zero, List.set_cons_succ]
                  refine wpAnyH_take (i := 20) (oi := { dst := some 110, op := Op.binOp BinOp.lss 3 (Operand.tmp 104) (Operand.tmp 109) 3, type := 4, pos := "apart.go:67", after := #[{ on := 14, ground := Ground.data }, { on := 19, ground := Ground.data }, { on := 13, ground := Ground.guard }], guard := some (13, false) }) (v := ?_) rfl (by kernel_rfl) (by kernel_rfl) (by kernel_rfl) (fun _ _ _ h => h) (Or.inl ⟨by kernel_rfl, ?_⟩) hHeld2 ?_
                  rotate_left
                  focus (intro w hSw; (try dsimp only at hSw); go_simp; try with_reducible rfl)
                  try simp only [Act.put, List.setIfInBounds_toArray, List.set_cons_zero, List.set_cons_succ]
                  refine wpAnyH_take (i := 21) (oi := { dst := some 111, op := Op.move (Operand.tmp 110), type := 4, pos := "apart.go:67", after := #[{ on := 20, ground := Ground.data }, { on := 13, ground := Ground.chain }, { on := 13, ground := Ground.guard }], guard := some (13, false) }) (v := ?_) rfl (by kernel_rfl) (by kernel_rfl) (by kernel_rfl) (fun _ _ _ h => h) (Or.inl ⟨by kernel_rfl, ?_⟩) hHeld2 ?_
                  rotate_left
                  focus (intro w hSw; (try dsimp only at hSw); go_simp; try with_reducible rfl)
                  try simp only [Act.put, List.setIfInBounds_toArray, List.set_cons_zero, List.set_cons_succ]
                  refine wpAnyH_take (i := 22) (oi := { dst := some 112, op := Op.move (Operand.tmp 0), type := 81, pos := "apart.go:67", after := #[{ on := 21, ground := Ground.guard }], guard := some (21, true) }) (v := undef) rfl (by kernel_rfl) (by kernel_rfl) (by kernel_rfl) (fun _ _ _ h => h) (Or.inr ⟨by kernel_rfl, by kernel_rfl⟩) hHeld2 ?_
                  try simp only [Act.put, List.setIfInBounds_toArray, List.set_cons_zero, List.set_cons_succ]
                  refine wpAnyH_take (i := 23) (oi := { dst := some 113, op := Op.move (Operand.tmp 9), type := 3, pos := "apart.go:67", after := #[{ on := 21, ground := Ground.guard }], guard := some (21, true) }) (v := undef) rfl (by kernel_rfl) (by kernel_rfl) (by kernel_rfl) (fun _ _ _ h => h) (Or.inr ⟨by kernel_rfl, by kernel_rfl⟩) hHeld2 ?_
                  try simp only [Act.put, List.setIfInBounds_toArray, List.set_cons_zero, List.set_cons_succ]
                  refine wpAnyH_take (i := 24) (oi := { dst := some 114, op := Op.indexAddr 81 (Operand.tmp 112) (Operand.tmp 113), type := 0, pos := "apart.go:67", after := #[{ on := 22, ground := Ground.data }, { on := 23, ground := Ground.data }, { on := 21, ground := Ground.guard }], guard := some (21, true) }) (v := undef) rfl (by kernel_rfl) (by kernel_rfl) (by kernel_rfl) (fun _ _ _ h => h) (Or.inr ⟨by kernel_rfl, by kernel_rfl⟩) hHeld2 ?_
                  try simp only [Act.put, List.setIfInBounds_toArray, List.set_cons_zero, List.set_cons_succ]
                  refine wpAnyH_take (i := 25) (oi := { dst := some 115, op := Op.load 22 (Operand.tmp 114), type := 22, pos := "apart.go:67", after := #[{ on := 24, ground := Ground.data }, { on := 21, ground := Ground.guard }], guard := some (21, true) }) (v := undef) rfl (by kernel_rfl) (by kernel_rfl) (by kernel_rfl) (fun _ _ _ h => h) (Or.inr ⟨by kernel_rfl, by kernel_rfl⟩) hHeld2 ?_
                  try simp only [Act.put, List.setIfInBounds_toArray, List.set_cons_zero, List.set_cons_succ]
                  refine wpAnyH_take (i := 26) (oi := { dst := some 116, op := Op.move (Operand.tmp 10), type := 3, pos := "apart.go:67", after := #[{ on := 21, ground := Ground.guard }], guard := some (21, true) }) (v := undef) rfl (by kernel_rfl) (by kernel_rfl) (by kernel_rfl) (fun _ _ _ h => h) (Or.inr ⟨by kernel_rfl, by kernel_rfl⟩) hHeld2 ?_
                  try simp only [Act.put, List.setIfInBounds_toArray, List.set_cons_zero, List.set_cons_succ]
                  refine wpAnyH_take (i := 27) (oi := { dst := some 117, op := Op.indexAddr 22 (Operand.tmp 115) (Operand.tmp 116), type := 0, pos := "apart.go:67", after := #[{ on := 25, ground := Ground.data }, { on := 26, ground := Ground.data }, { on := 21, ground := Ground.guard }], guard := some (21, true) }) (v := undef) rfl (by kernel_rfl) (by kernel_rfl) (by kernel_rfl) (fun _ _ _ h => h) (Or.inr ⟨by kernel_rfl, by kernel_rfl⟩) hHeld2 ?_
                  try simp only [Act.put, List.setIfInBounds_toArray, List.set_cons_zero, List.set_cons_succ]
                  refine wpAnyH_take (i := 28) (oi := { dst := some 118, op := Op.load 46 (Operand.tmp 117), type := 46, pos := "apart.go:67", after := #[{ on := 27, ground := Ground.data }, { on := 21, ground := Ground.guard }], guard := some (21, true) }) (v := undef) rfl (by kernel_rfl) (by kernel_rfl) (by kernel_rfl) (fun _ _ _ h => h) (Or.inr ⟨by kernel_rfl, by kernel_rfl⟩) hHeld2 ?_
                  try simp only [Act.put, List.setIfInBounds_toArray, List.set_cons_zero, List.set_cons_succ]
                  refine wpAnyH_take (i := 29) (oi := { dst := some 119, op := Op.move (Operand.tmp 9), type := 3, pos := "apart.go:67", after := #[{ on := 21, ground := Ground.guard }], guard := some (21, true) }) (v := undef) rfl (by kernel_rfl) (by kernel_rfl) (by kernel_rfl) (fun _ _ _ h => h) (Or.inr ⟨by kernel_rfl, by kernel_rfl⟩) hHeld2 ?_
                  try simp only [Act.put, List.setIfInBounds_toArray, List.set_cons_zero, List.set_cons_succ]
                  refine wpAnyH_take (i := 30) (oi := { dst := some 120, op := Op.move (Operand.tmp 10), type := 3, pos := "apart.go:67", after := #[{ on := 21, ground := Ground.guard }], guard := some (21, true) }) (v := undef) rfl (by kernel_rfl) (by kernel_rfl) (by kernel_rfl) (fun _ _ _ h => h) (Or.inr ⟨by kernel_rfl, by kernel_rfl⟩) hHeld2 ?_
                  try simp only [Act.put, List.setIfInBounds_toArray, List.set_cons_zero, List.set_cons_succ]
                  refine wpAnyH_take (i := 31) (oi := { dst := some 121, op := Op.call { callee := Callee.value (Operand.func 61), args := #[Operand.tmp 119, Operand.tmp 120], argTypes := #[3, 3] }, type := 3, pos := "apart.go:67", after := #[{ on := 29, ground := Ground.data }, { on := 30, ground := Ground.data }, { on := 21, ground := Ground.chain }, { on := 21, ground := Ground.guard }], guard := some (21, true) }) (v := undef) rfl (by kernel_rfl) (by kernel_rfl) (by kernel_rfl) (fun _ _ _ h => h) (Or.inr ⟨by kernel_rfl, by kernel_rfl⟩) hHeld2 ?_
                  try simp only [Act.put, List.setIfInBounds_toArray, List.set_cons_zero, List.set_cons_succ]
                  refine wpAnyH_take (i := 32) (oi := { dst := some 122, op := Op.convert 3 46 (Operand.tmp 121), type := 46, pos := "apart.go:67", after := #[{ on := 31, ground := Ground.data }, { on := 21, ground := Ground.guard }], guard := some (21, true) }) (v := undef) rfl (by kernel_rfl) (by kernel_rfl) (by kernel_rfl) (fun _ _ _ h => h) (Or.inr ⟨by kernel_rfl, by kernel_rfl⟩) hHeld2 ?_
                  try simp only [Act.put, List.setIfInBounds_toArray, List.set_cons_zero, List.set_cons_succ]
                  refine wpAnyH_take (i := 33) (oi := { dst := some 123, op := Op.binOp BinOp.eql 46 (Operand.tmp 118) (Operand.tmp 122) 46, type := 4, pos := "apart.go:67", after := #[{ on := 28, ground := Ground.data }, { on := 32, ground := Ground.data }, { on := 21, ground := Ground.guard }], guard := some (21, true) }) (v := undef) rfl (by kernel_rfl) (by kernel_rfl) (by kernel_rfl) (fun _ _ _ h => h) (Or.inr ⟨by kernel_rfl, by kernel_rfl⟩) hHeld2 ?_
                  try simp only [Act.put, List.setIfInBounds_toArray, List.set_cons_zero, List.set_cons_succ]
                  refine wpAnyH_take (i := 34) (oi := { dst := some 124, op := Op.unOp UnOp.not 4 (Operand.tmp 123), type := 4, pos := "apart.go:67", after := #[{ on := 33, ground := Ground.data }, { on := 21, ground := Ground.guard }], guard := some (21, true) }) (v := undef) rfl (by kernel_rfl) (by kernel_rfl) (by kernel_rfl) (fun _ _ _ h => h) (Or.inr ⟨by kernel_rfl, by kernel_rfl⟩) hHeld2 ?_
                  try simp only [Act.put, List.setIfInBounds_toArray, List.set_cons_zero, List.set_cons_succ]
                  refine wpAnyH_take (i := 35) (oi := { dst := some 125, op := Op.pick (Operand.tmp 111) (Operand.tmp 124) (Operand.const (Value.bool false)), type := 4, pos := "apart.go:67", after := #[{ on := 21, ground := Ground.data }, { on := 34, ground := Ground.data }, { on := 13, ground := Ground.guard }], guard := some (13, false) }) (v := ?_) rfl (by kernel_rfl) (by kernel_rfl) (by kernel_rfl) (fun _ _ _ h => h) (Or.inl ⟨by kernel_rfl, ?_⟩) hHeld2 ?_
                  rotate_left
                  focus (intro w hSw; (try dsimp only at hSw); go_simp; try with_reducible rfl)
                  try simp only [Act.put, List.setIfInBounds_toArray, List.set_cons_zero, List.set_cons_succ]
                  refine wpAnyH_take (i := 36) (oi := { dst := some 126, op := Op.pick (Operand.tmp 103) (Operand.const (Value.bool true)) (Operand.tmp 125), type := 4, pos := "apart.go:67", after := #[{ on := 13, ground := Ground.data }, { on := 35, ground := Ground.data }], guard := none }) (v := ?_) rfl (by kernel_rfl) (by kernel_rfl) (by kernel_rfl) (fun _ _ _ h => h) (Or.inl ⟨by kernel_rfl, ?_⟩) hHeld2 ?_
                  rotate_left
                  focus (intro w hSw; (try dsimp only at hSw); go_simp; try with_reducible rfl)
                  try simp only [Act.put, List.setIfInBounds_toArray, List.set_cons_zero, List.set_cons_succ]
                  refine wpAnyH_done (by kernel_rfl) ?_ _
                  go_wp2
                  go_roundw
                  case rel => exact ⟨i + 1, by omega, by go_num, hHeld2.2.2.2, hHeld2.1, hHeld2.2.1⟩
                  case measure => simp [intOf]; omega
              · have hiI : (n : Int) + 64 ≤ i := by omega
                go_wp2
                go_roundw
                case rel => exact ⟨j + 1, by have := HJ.out; omega, by go_num, HL.out⟩
                case measure => have := HJ.out; simp [intOf]; omega
          · have hjI2 : (k : Int) ≤ j := by omega
            obtain rfl : k = j := by omega
            have HL0 := Lib.hid (HL.out.anew (y := 0))
            clear HL HE hj
            go_wp2
            go_loopw [11] (fun kv wr => ∃ (j : Nat) (es : List D), j ≤ k ∧ kv = .int .i64 (j : Nat) ∧ Hid (es.length = j) ∧ Hid (L2 1 mcU ds es k 0 G Z w wr)) (fun kv _ => k - (intOf kv).toNat)
            case atStart => exact ⟨0, [], Nat.zero_le _, rfl, rfl, HL0.out⟩
            case round =>
            clear HL0
            obtain ⟨j, es, hj, rfl, HE, HL⟩ := hrel
            rename World => wr
            by_cases hjk : j < k
            · have hjI : (j : Int) < k := by omega
              have HJ := Lib.hid hjk
              go_wp2_with (at_make; refine wpList_make_full _ rfl _ _ 22 rfl wr.heap.size 46 i0 (.int .u32 0) 1 Tryz.underlying22 hinf hz0 hz1 .i64 .i64 _ _ 64 rfl rfl rfl rfl (by rw [hz2]; omega) (by simp only [maxLen]; omega) (Nat.le_refl _) ?_; intro w2 ho2 hg2)
              have hb2 : Below wr.heap.size wr w2 := ⟨hg2.os, hg2.tape, hg2.output, hg2.size, fun k hk => hg2.block k hk (by simp)⟩
              have HL2 := Lib.hid (HL.out.below hb2 HM.out)
              have hro := room_of_full ho2
              have HRM := Lib.hid hro
              have HFI : Hid (Fill w2 ⟨some wr.heap.size, 64, 64⟩ (mrow mcU (j + k) 0)) := fun b hb t u hu => by simp [mrow] at hu
              have HMB : Hid (¬ InD ds wr.heap.size ∧ ¬ InD es wr.heap.size ∧ wr.heap.size ≠ G ∧ w.heap.size ≤ wr.heap.size) := by
                refine ⟨fun s => ?_, fun s => ?_, ?_, ?_⟩
                · have := HDW.out _ s; have := HL.out.but.size; omega
                · obtain ⟨t, ht, et⟩ := s; have := (HL.out.roomE t ht).lt _ et; omega
                · have := HL.out.gz; have := HL.out.zs; omega
                · exact HL.out.but.size
              clear HL hro ho2 hg2 hb2
              generalize wr.heap.size = M at *
              clear wr hjk
              go_loopw [13] (fun iv wq => ∃ (i : Nat), i ≤ 64 ∧ iv = .int .i64 (i : Nat) ∧ Hid (L2 1 mcU ds es k 0 G Z w wq) ∧ Hid (Room wq 1 ⟨some M, 64, 64⟩) ∧ Hid (Fill wq ⟨some M, 64, 64⟩ (mrow mcU (j + k) i))) (fun iv _ => 64 - (intOf iv).toNat)
              case atStart => exact ⟨0, by omega, rfl, HL2.out, HRM.out, HFI.out⟩
              case round =>
              clear HL2 HRM HFI
              obtain ⟨i, hi, rfl, HL, HRM, HFI⟩ := hrel
              rename World => wq
              by_cases hi64 : i < 64
              · have hiI : (i : Int) < 64 := by omega
                obtain ⟨x, hx⟩ : ∃ x, x = mk (j + k) i := ⟨_, rfl⟩
                have HMR : Hid (∀ (W : World) (z : Int), z = (j : Int) + k → Calls Tryz.prog 61 #[.int .i64 z, .int .i64 (i : Nat)] W fun e w' => e = .returned (.int .i64 x) ∧ Below W.heap.size W w') := by
                  rintro W z rfl
                  have := markU_any (j + k) i W (by have := HJ.out; omega) (by omega)
                  rw [← hx] at this
                  rw [← Int.natCast_add]; exact this
                have hx0 : 0 ≤ x := by rw [hx]; exact mk_lo _ _
                have hx4 : x ≤ 4294967295 := by rw [hx]; exact mk_hi (by first | omega | (have := HJ.out; omega) | (have := HI.out; omega)) (by first | omega | (have := HI.out; omega))
                have hwx : IntKind.u32.wrap x = x := by rw [IntKind.wrap_u32]; omega
                have HX := Lib.hid hx
                have HI := Lib.hid hi64
                clear hx hi64 hi
                go_wp2_with (go_at_call 61; refine (HMR.out _ _ (by first | rfl | omega)).mono ?_; rintro er w6 ⟨rfl, hb6⟩; have hr6 := HRM.out.below hb6; have HR6 := Lib.hid hr6; have HF6 := Lib.hid (HFI.out.below HRM.out hb6); have HL6 := Lib.hid (HL.out.below hb6 HM.out); obtain ⟨s0, f0⟩ := hr6.cell M rfl i (by have := HI.out; simp only; omega); obtain ⟨u0, hu0⟩ := Option.isSome_iff_exists.1 s0; clear hr6 s0 hb6)
                have hw : w6.setCell ⟨M, i, none⟩ (.int .u32 x) = w6.setCells M (i * 1) (mcU (j + k) i) := by rw [HX.out, Nat.mul_one]; rfl
                have hn1 : L2 1 mcU ds es k 0 G Z w (w6.setCells M (i * 1) (mcU (j + k) i)) := HL6.out.but' (But.ofGrown (grown_setCells w6 M (i * 1) (mcU (j + k) i))) (fun b s => by
                  simp only [Option.some.injEq] at s
                  subst s
                  exact HMB.out) HM.out
                have hn2 := room_set HR6.out M (i * 1) (mcU (j + k) i)
                have hn3 := fill_set mcU_length HR6.out rfl (by have := HI.out; simp only; omega) HF6.out
                rw [← hw] at hn1 hn2 hn3
                have HN1 := Lib.hid hn1
                have HN2 := Lib.hid hn2
                have HN3 := Lib.hid hn3
                clear hn1 hn2 hn3 hw
                go_wp2
                go_roundw
                case rel => exact ⟨i + 1, by have := HI.out; omega, by go_num, HN1.out, HN2.out, HN3.out⟩
                case measure => have := HI.out; simp [intOf]; omega
              · have hiI : (64 : Int) ≤ i := by omega
                obtain rfl : i = 64 := by omega
                obtain ⟨bq, oq, rfl, hcq, hnb, _⟩ := slD_at (slD_but HQ.out HL.out.but) (show j < ds.length by have := HM.out; have := HJ.out; omega)
                obtain ⟨⟨p, n, c⟩, hd⟩ : ∃ d, d = dg ds j := ⟨_, rfl⟩
                have hnn := HN.out j HJ.out
                rw [← hd] at hcq hnn
                simp only at hnn
                have hv : D.val ⟨p, n, c⟩ = .slice (D.ad ⟨p, n, c⟩) n c := rfl
                rw [hv] at hcq
                obtain ⟨ad, had⟩ : ∃ ad, ad = D.ad ⟨p, n, c⟩ := ⟨_, rfl⟩
                rw [← had] at hcq
                have HD := Lib.hid hd.symm
                have HAD := Lib.hid had
                have HNN := Lib.hid hnn
                have HRD : Hid (Room wq 1 ⟨p, n, c⟩) := by have := HL.out.room j HJ.out; rw [HD.out] at this; exact this
                have HFD : Hid (Fill wq ⟨p, n, c⟩ (mrow mcU j n)) := by have := HL.out.fill j HJ.out; rw [HD.out] at this; exact this
                have HAT : Hid (At2 ds es j G Z wq ⟨p, n, c⟩) := by have := HL.out.at0 (by rw [HE.out]; exact HJ.out); rw [HE.out, HD.out] at this; exact this
                have HNEW : Hid (∀ t u, (mrow mcU (j + k) 64)[t]? = some u → wq.cell? ((⟨M, 0, none⟩ : Addr).add t) = some u) := fun t u hu => by
                  rw [Addr.add_lit, Nat.zero_add]; exact HFI.out M rfl t u hu
                have HONE : Hid (∀ u ∈ mrow mcU (j + k) 64, u.oneCell' = true) := by
                  intro u hu
                  unfold mrow at hu
                  rw [List.mem_flatMap] at hu
                  obtain ⟨t, _, ht⟩ := hu
                  simp only [mcU, List.mem_cons, List.not_mem_nil, or_false] at ht
                  rcases ht with rfl; rfl
                clear hd hnb hnn hv had HFI HRM hi
                go_wp2_with (at_builtin; refine wpList_append_far rfl _ _ 22 rfl 46 i0 (.int .u32 0) 1 4 Tryz.underlying22 hinf hz0 hz1 hz2 rfl (by decide) ⟨p, n, c⟩ (by show Value.slice ad n c = _; rw [HAD.out]; rfl) HRD.out _ (mrow_length mcU_length j n) HFD.out ⟨M, 0, none⟩ 64 64 (mrow mcU (j + k) 64) rfl (mrow_length mcU_length _ 64) HNEW.out HONE.out (by decide) ?c2 ?c3 ?_)
                case c2 => have := HNN.out; simp only [maxLen]; omega
                case c3 => have := HNN.out; omega
                intro e' w7 hgr
                have hstep := HL.out.grewAt HM.out HF.out HE.out HJ.out HAT.out (n := n) (by rw [HD.out]) (Nat.le_refl _) mcU_length hgr
                obtain ⟨f1, f2⟩ := hstep.1.free j HJ.out
                obtain ⟨u0, hu0⟩ := Option.isSome_iff_exists.1 f1
                have hput := hstep.1.putAt HM.out HE.out HJ.out hstep.2.1 (n := n) (by rw [HD.out]) hstep.2.2.1 hstep.2.2.2.1.front hstep.2.2.2.2
                obtain ⟨p', n', c'⟩ := e'
                obtain ⟨ad', had'⟩ : ∃ a, a = D.ad ⟨p', n', c'⟩ := ⟨_, rfl⟩
                rw [show D.val ⟨p', n', c'⟩ = .slice ad' n' c' by rw [had']; rfl] at hput ⊢
                have HPUT := Lib.hid hput
                clear had' hput f1 hcq hgr hstep
                go_wp2
                go_roundw
                case rel => exact ⟨j + 1, _, by have := HJ.out; omega, by go_num, HPUT.out.2, HPUT.out.1⟩
                case measure => have := HJ.out; simp [intOf]; omega
            · have hjI2 : (k : Int) ≤ j := by omega
              obtain rfl : k = j := by omega
              clear hj
              go_wp2
              go_loopw [14] (fun kv wr => ∃ (j : Nat), j ≤ k ∧ kv = .int .i64 (j : Nat) ∧ Hid (L2 1 mcU ds es k 0 G Z w wr)) (fun kv _ => k - (intOf kv).toNat)
              case atStart => exact ⟨0, Nat.zero_le _, rfl, HL.out⟩
              case round =>
              clear HL
              obtain ⟨j, hj, rfl, HL⟩ := hrel
              rename World => wr
              by_cases hjk : j < k
              · have hjI3 : (j : Int) < k := by omega
                obtain ⟨bq, oq, rfl, hcq, hnb, _⟩ := slD_at (slD_but HQ.out HL.out.but) (show j < ds.length by have := HM.out; omega)
                obtain ⟨⟨p, n, c⟩, hd⟩ : ∃ d, d = dg ds j := ⟨_, rfl⟩
                have hnn := HN.out j hjk
                rw [← hd] at hcq hnn
                simp only at hnn
                have hv : D.val ⟨p, n, c⟩ = .slice (D.ad ⟨p, n, c⟩) n c := rfl
                rw [hv] at hcq
                obtain ⟨ad, had⟩ : ∃ ad, ad = D.ad ⟨p, n, c⟩ := ⟨_, rfl⟩
                rw [← had] at hcq
                have HD := Lib.hid hd.symm
                have HAD := Lib.hid had
                have hnI : (n : Int) ≤ 100000 := by omega
                have HJ := Lib.hid hjk
                clear hd hnb hnn hv had hjk
                go_wp2
                go_loopw [15] (fun iv wq => ∃ (i : Nat), i ≤ n ∧ iv = .int .i64 (i : Nat) ∧ Hid (L2 1 mcU ds es k 0 G Z w wq) ∧ wq.cell? ⟨bq, oq + j, none⟩ = some (.slice ad n c)) (fun iv _ => n - (intOf iv).toNat)
                case atStart => exact ⟨0, Nat.zero_le _, rfl, HL.out, hcq⟩
                case round =>
                clear HL hcq
                obtain ⟨i, hi, rfl, HL, hcq⟩ := hrel
                rename World => wq
                by_cases hin : i < n
                · have hiI : (i : Int) < n := by omega
                  have hcg := HL.out.cell j (by rw [HE.out]; exact HJ.out)
                  have hre := HL.out.roomE j (by rw [HE.out]; exact HJ.out)
                  have hfe := HL.out.fillE j (by rw [HE.out]; exact HJ.out)
                  have hn2 := HL.out.nE j (by rw [HE.out]; exact HJ.out)
                  have hrd := HL.out.room j HJ.out
                  have hfd := HL.out.fill j HJ.out
                  obtain ⟨⟨p2, n2, c2⟩, he⟩ : ∃ d, d = dg es j := ⟨_, rfl⟩
                  rw [← he] at hcg hre hfe hn2
                  rw [HD.out] at hfe hn2 hrd hfd
                  simp only at hn2
                  subst hn2
                  obtain ⟨b2, hb2⟩ := room_some hre (by simp only; omega)
                  obtain ⟨b, hb⟩ := room_some hrd (by simp only; omega)
                  simp only at hb hb2
                  subst hb2
                  subst hb
                  rw [val_some] at hcg
                  have had := HAD.out
                  rw [show D.ad ⟨some b, n, c⟩ = some ⟨b, 0, none⟩ from rfl] at had
                  subst had
                  obtain ⟨x, hx⟩ : ∃ x, x = mk j i := ⟨_, rfl⟩
                  have hx1 := mrow_cell mcU_length hfd rfl hin (show 0 < 1 by omega) (show (mcU j i)[0]? = some (.int .u32 x) by rw [hx]; rfl)
                  have hx3 := mrow_cell mcU_length hfe rfl (show i < n + 0 from hin) (show 0 < 1 by omega) (show (mcU j i)[0]? = some (.int .u32 x) by rw [hx]; rfl)
                  rw [Nat.add_zero, Nat.mul_one] at hx1 hx3
                  have HMR := Lib.hid (fun W => markU_any j i W (by have := HJ.out; omega) (by omega))
                  rw [← hx] at HMR
                  have hcJ : (n : Int) + 64 ≤ c2 := by have := hre.le; simp only at this; omega
                  have hnJ : (i : Int) < (n : Int) + 64 := by omega
                  have hx0 : 0 ≤ x := by rw [hx]; exact mk_lo _ _
                  have hx4 : x ≤ 4294967295 := by rw [hx]; exact mk_hi (by first | omega | (have := HJ.out; omega) | (have := HI.out; omega)) (by first | omega | (have := HI.out; omega))
                  have hwx : IntKind.u32.wrap x = x := by rw [IntKind.wrap_u32]; omega
                  clear hfe hfd hre hrd hx he
                  go_wp2
                  refine wp_region_held_drew (S := (fun W => W.cell? ⟨bq, oq + j, none⟩ = some (.slice (some ⟨b, 0, none⟩) n c) ∧ W.cell? ⟨G, j, none⟩ = some (.slice (some ⟨b2, 0, none⟩) (n + 64) c2) ∧ W.cell? ⟨b, i, none⟩ = some (.int .u32 x) ∧ W.cell? ⟨b2, i, none⟩ = some (.int .u32 x) ∧ Hid (L2 1 mcU ds es k 0 G Z w W))) (by kernel_rfl) ⟨hcq, hcg, hx1, hx3, HL.out.below ((Below.refl _ _).drew) HM.out⟩ (fun hHeld => ?_)
                  refine wpAnyH_take (i := 0) (oi := { dst := some 172, op := Op.move (Operand.tmp 0), type := 81, pos := "apart.go:81", after := #[], guard := none }) (v := ?_) rfl (by kernel_rfl) (by kernel_rfl) (by kernel_rfl) (fun _ _ _ h => h) (Or.inl ⟨by kernel_rfl, ?_⟩) hHeld ?_
                  rotate_left
                  focus (intro w hSw; (try dsimp only at hSw); go_simp; try with_reducible rfl)
                  try simp only [Act.put, List.setIfInBounds_toArray, List.set_cons_zero, List.set_cons_succ]
                  refine wpAnyH_take (i := 1) (oi := { dst := some 173, op := Op.move (Operand.tmp 14), type := 3, pos := "apart.go:81", after := #[], guard := none }) (v := ?_) rfl (by kernel_rfl) (by kernel_rfl) (by kernel_rfl) (fun _ _ _ h => h) (Or.inl ⟨by kernel_rfl, ?_⟩) hHeld ?_
                  rotate_left
                  focus (intro w hSw; (try dsimp only at hSw); go_simp; try with_reducible rfl)
                  try simp only [Act.put, List.setIfInBounds_toArray, List.set_cons_zero, List.set_cons_succ]
                  refine wpAnyH_take (i := 2) (oi := { dst := some 174, op := Op.indexAddr 81 (Operand.tmp 172) (Operand.tmp 173), type := 0, pos := "apart.go:81", after := #[{ on := 0, ground := Ground.data }, { on := 1, ground := Ground.data }], guard := none }) (v := ?_) rfl (by kernel_rfl) (by kernel_rfl) (by kernel_rfl) (fun _ _ _ h => h) (Or.inl ⟨by kernel_rfl, ?_⟩) hHeld ?_
                  rotate_left
                  focus (intro w hSw; (try dsimp only at hSw); go_simp; try with_reducible rfl)
                  try simp only [Act.put, List.setIfInBounds_toArray, List.set_cons_zero, List.set_cons_succ]
                  refine wpAnyH_take (i := 3) (oi := { dst := some 175, op := Op.load 22 (Operand.tmp 174), type := 22, pos := "apart.go:81", after := #[{ on := 2, ground := Ground.data }], guard := none }) (v := ?_) rfl (by kernel_rfl) (by kernel_rfl) (by kernel_rfl) (fun _ _ _ h => h) (Or.inl ⟨by kernel_rfl, ?_⟩) hHeld ?_
                  rotate_left
                  focus (intro w hSw; (try dsimp only at hSw); go_simp; try with_reducible rfl)
                  try simp only [Act.put, List.setIfInBounds_toArray, List.set_cons_zero, List.set_cons_succ]
                  refine wpAnyH_take (i := 4) (oi := { dst := some 176, op := Op.move (Operand.tmp 15), type := 3, pos := "apart.go:81", after := #[], guard := none }) (v := ?_) rfl (by kernel_rfl) (by kernel_rfl) (by kernel_rfl) (fun _ _ _ h => h) (Or.inl ⟨by kernel_rfl, ?_⟩) hHeld ?_
                  rotate_left
                  focus (intro w hSw; (try dsimp only at hSw); go_simp; try with_reducible rfl)
                  try simp only [Act.put, List.setIfInBounds_toArray, List.set_cons_zero, List.set_cons_succ]
                  refine wpAnyH_take (i := 5) (oi := { dst := some 177, op := Op.indexAddr 22 (Operand.tmp 175) (Operand.tmp 176), type := 0, pos := "apart.go:81", after := #[{ on := 3, ground := Ground.data }, { on := 4, ground := Ground.data }], guard := none }) (v := ?_) rfl (by kernel_rfl) (by kernel_rfl) (by kernel_rfl) (fun _ _ _ h => h) (Or.inl ⟨by kernel_rfl, ?_⟩) hHeld ?_
                  rotate_left
                  focus (intro w hSw; (try dsimp only at hSw); go_simp; try with_reducible rfl)
                  try simp only [Act.put, List.setIfInBounds_toArray, List.set_cons_zero, List.set_cons_succ]
                  refine wpAnyH_take (i := 6) (oi := { dst := some 178, op := Op.load 46 (Operand.tmp 177), type := 46, pos := "apart.go:81", after := #[{ on := 5, ground := Ground.data }], guard := none }) (v := ?_) rfl (by kernel_rfl) (by kernel_rfl) (by kernel_rfl) (fun _ _ _ h => h) (Or.inl ⟨by kernel_rfl, ?_⟩) hHeld ?_
                  rotate_left
                  focus (intro w hSw; (try dsimp only at hSw); go_simp; try with_reducible rfl)
                  try simp only [Act.put, List.setIfInBounds_toArray, List.set_cons_zero, List.set_cons_succ]
                  refine wpAnyH_take (i := 7) (oi := { dst := some 179, op := Op.move (Operand.tmp 14), type := 3, pos := "apart.go:81", after := #[], guard := none }) (v := ?_) rfl (by kernel_rfl) (by kernel_rfl) (by kernel_rfl) (fun _ _ _ h => h) (Or.inl ⟨by kernel_rfl, ?_⟩) hHeld ?_
                  rotate_left
                  focus (intro w hSw; (try dsimp only at hSw); go_simp; try with_reducible rfl)
                  try simp only [Act.put, List.setIfInBounds_toArray, List.set_cons_zero, List.set_cons_succ]
                  refine wpAnyH_take (i := 8) (oi := { dst := some 180, op := Op.move (Operand.tmp 15), type := 3, pos := "apart.go:81", after := #[], guard := none }) (v := ?_) rfl (by kernel_rfl) (by kernel_rfl) (by kernel_rfl) (fun _ _ _ h => h) (Or.inl ⟨by kernel_rfl, ?_⟩) hHeld ?_
                  rotate_left
                  focus (intro w hSw; (try dsimp only at hSw); go_simp; try with_reducible rfl)
                  try simp only [Act.put, List.setIfInBounds_toArray, List.set_cons_zero, List.set_cons_succ]
                  refine wpAnyH_ready (rs := [9]) (by kernel_rfl) (by simp) ?_
                  refine AllReadyH.cons (o := { dst := some 181, op := Op.call { callee := Callee.value (Operand.func 61), args := #[Operand.tmp 179, Operand.tmp 180], argTypes := #[3, 3] }, type := 3, pos := "apart.go:81", after := #[{ on := 7, ground := Ground.data }, { on := 8, ground := Ground.data }], guard := none }) rfl (fun K hK => ?_) AllReadyH.nil
                  go_simp
                  go_at_call 61
                  refine (HMR.out _).mono ?_
                  rintro er w6 ⟨rfl, hb6⟩
                  obtain ⟨h1, h2, h3, h4, h5⟩ := id hHeld
                  have hS6 := And.intro (fkeep_cell hb6 h1) (And.intro (fkeep_cell hb6 h2) (And.intro (fkeep_cell hb6 h3) (And.intro (fkeep_cell hb6 h4) (Lib.hid (L2.below h5.out hb6 HM.out)))))
                  clear hb6 h1 h2 h3 h4 h5
                  try go_wp2_with fail
                  refine hK.out _ _ hS6 (fun hHeld2 => ?_)
                  clear hK K hS6
                  try simp only [Act.put, List.setIfInBounds_toArray, List.set_cons_zero, List.set_cons_succ]
                  refine wpAnyH_take (i := 10) (oi := { dst := some 182, op := Op.convert 3 46 (Operand.tmp 181), type := 46, pos := "apart.go:81", after := #[{ on := 9, ground := Ground.data }], guard := none }) (v := ?_) rfl (by kernel_rfl) (by kernel_rfl) (by kernel_rfl) (fun _ _ _ h => h) (Or.inl ⟨by kernel_rfl, ?_⟩) hHeld2 ?_
                  rotate_left
                  focus (intro w hSw; (try dsimp only at hSw); go_simp; try with_reducible rfl)
                  try simp only [Act.put, List.setIfInBounds_toArray, List.set_cons_zero, List.set_cons_succ]
                  refine wpAnyH_take (i := 11) (oi := { dst := some 183, op := Op.binOp BinOp.eql 46 (Operand.tmp 178) (Operand.tmp 182) 46, type := 4, pos := "apart.go:81", after := #[{ on := 6, ground := Ground.data }, { on := 10, ground := Ground.data }], guard := none }) (v := ?_) rfl (by kernel_rfl) (by kernel_rfl) (by kernel_rfl) (fun _ _ _ h => h) (Or.inl ⟨by kernel_rfl, ?_⟩) hHeld2 ?_
                  rotate_left
                  focus (intro w hSw; (try dsimp only at hSw); go_simp; try with_reducible rfl)
                  try simp only [Act.put, List.setIfInBounds_toArray, List.set_cons_zero, List.set_cons_succ]
                  refine wpAnyH_take (i := 12) (oi := { dst := some 184, op := Op.unOp UnOp.not 4 (Operand.tmp 183), type := 4, pos := "apart.go:81", after := #[{ on := 11, ground := Ground.data }], guard := none }) (v := ?_) rfl (by kernel_rfl) (by kernel_rfl) (by kernel_rfl) (fun _ _ _ h => h) (Or.inl ⟨by kernel_rfl, ?_⟩) hHeld2 ?_
                  rotate_left
                  focus (intro w hSw; (try dsimp only at hSw); go_simp; try with_reducible rfl)
                  try simp only [Act.put, List.setIfInBounds_toArray, List.set_cons_zero, List.set_cons_succ]
                  refine wpAnyH_take (i := 13) (oi := { dst := some 185, op := Op.move (Operand.tmp 184), type := 4, pos := "apart.go:81", after := #[{ on := 12, ground := Ground.data }, { on := 9, ground := Ground.chain }], guard := none }) (v := ?_) rfl (by kernel_rfl) (by kernel_rfl) (by kernel_rfl) (fun _ _ _ h => h) (Or.inl ⟨by kernel_rfl, ?_⟩) hHeld2 ?_
                  rotate_left
                  focus (intro w hSw; (try dsimp only at hSw); go_simp; try with_reducible rfl)
                  try simp only [Act.put, List.setIfInBounds_toArray, List.set_cons_zero, List.set_cons_succ]
                  refine wpAnyH_take (i := 14) (oi := { dst := some 186, op := Op.move (Operand.tmp 5), type := 81, pos := "apart.go:81", after := #[{ on := 13, ground := Ground.guard }], guard := some (13, false) }) (v := ?_) rfl (by kernel_rfl) (by kernel_rfl) (by kernel_rfl) (fun _ _ _ h => h) (Or.inl ⟨by kernel_rfl, ?_⟩) hHeld2 ?_
                  rotate_left
                  focus (intro w hSw; (try dsimp only at hSw); go_simp; try with_reducible rfl)
                  try simp only [Act.put, List.setIfInBounds_toArray, List.set_cons_zero, List.set_cons_succ]
                  refine wpAnyH_take (i := 15) (oi := { dst := some 187, op := Op.move (Operand.tmp 14), type := 3, pos := "apart.go:81", after := #[{ on := 13, ground := Ground.guard }], guard := some (13, false) }) (v := ?_) rfl (by kernel_rfl) (by kernel_rfl) (by kernel_rfl) (fun _ _ _ h => h) (Or.inl ⟨by kernel_rfl, ?_⟩) hHeld2 ?_
                  rotate_left
                  focus (intro w hSw; (try dsimp only at hSw); go_simp; try with_reducible rfl)
                  try simp only [Act.put, List.setIfInBounds_toArray, List.set_cons_zero, List.set_cons_succ]
                  refine wpAnyH_take (i := 16) (oi := { dst := some 188, op := Op.indexAddr 81 (Operand.tmp 186) (Operand.tmp 187), type := 0, pos := "apart.go:81", after := #[{ on := 14, ground := Ground.data }, { on := 15, ground := Ground.data }, { on := 13, ground := Ground.guard }], guard := some (13, false) }) (v := ?_) rfl (by kernel_rfl) (by kernel_rfl) (by kernel_rfl) (fun _ _ _ h => h) (Or.inl ⟨by kernel_rfl, ?_⟩) hHeld2 ?_
                  rotate_left
                  focus (intro w hSw; (try dsimp only at hSw); go_simp; try with_reducible rfl)
                  try simp only [Act.put, List.setIfInBounds_toArray, List.set_cons_zero, List.set_cons_succ]
                  refine wpAnyH_take (i := 17) (oi := { dst := some 189, op := Op.load 22 (Operand.tmp 188), type := 22, pos := "apart.go:81", after := #[{ on := 16, ground := Ground.data }, { on := 13, ground := Ground.guard }], guard := some (13, false) }) (v := ?_) rfl (by kernel_rfl) (by kernel_rfl) (by kernel_rfl) (fun _ _ _ h => h) (Or.inl ⟨by kernel_rfl, ?_⟩) hHeld2 ?_
                  rotate_left
                  focus (intro w hSw; (try dsimp only at hSw); go_simp; try with_reducible rfl)
                  try simp only [Act.put, List.setIfInBounds_toArray, List.set_cons_zero, List.set_cons_succ]
                  refine wpAnyH_take (i := 18) (oi := { dst := some 190, op := Op.move (Operand.tmp 15), type := 3, pos := "apart.go:81", after := #[{ on := 13, ground := Ground.guard }], guard := some (13, false) }) (v := ?_) rfl (by kernel_rfl) (by kernel_rfl) (by kernel_rfl) (fun _ _ _ h => h) (Or.inl ⟨by kernel_rfl, ?_⟩) hHeld2 ?_
                  rotate_left
                  focus (intro w hSw; (try dsimp only at hSw); go_simp; try with_reducible rfl)
                  try simp only [Act.put, List.setIfInBounds_toArray, List.set_cons_zero, List.set_cons_succ]
                  refine wpAnyH_take (i := 19) (oi := { dst := some 191, op := Op.indexAddr 22 (Operand.tmp 189) (Operand.tmp 190), type := 0, pos := "apart.go:81", after := #[{ on := 17, ground := Ground.data }, { on := 18, ground := Ground.data }, { on := 13, ground := Ground.guard }], guard := some (13, false) }) (v := ?_) rfl (by kernel_rfl) (by kernel_rfl) (by kernel_rfl) (fun _ _ _ h => h) (Or.inl ⟨by kernel_rfl, ?_⟩) hHeld2 ?_
                  rotate_left
                  focus (intro w hSw; (try dsimp only at hSw); go_simp; try with_reducible rfl)
                  try simp only [Act.put, List.setIfInBounds_toArray, List.set_cons_zero, List.set_cons_succ]
                  refine wpAnyH_take (i := 20) (oi := { dst := some 192, op := Op.load 46 (Operand.tmp 191), type := 46, pos := "apart.go:81", after := #[{ on := 19, ground := Ground.data }, { on := 13, ground := Ground.guard }], guard := some (13, false) }) (v := ?_) rfl (by kernel_rfl) (by kernel_rfl) (by kernel_rfl) (fun _ _ _ h => h) (Or.inl ⟨by kernel_rfl, ?_⟩) hHeld2 ?_
                  rotate_left
                  focus (intro w hSw; (try dsimp only at hSw); go_simp; try with_reducible rfl)
                  try simp only [Act.put, List.setIfInBounds_toArray, List.set_cons_zero, List.set_cons_succ]
                  refine wpAnyH_take (i := 21) (oi := { dst := some 193, op := Op.move (Operand.tmp 14), type := 3, pos := "apart.go:81", after := #[{ on := 13, ground := Ground.guard }], guard := some (13, false) }) (v := ?_) rfl (by kernel_rfl) (by kernel_rfl) (by kernel_rfl) (fun _ _ _ h => h) (Or.inl ⟨by kernel_rfl, ?_⟩) hHeld2 ?_
                  rotate_left
                  focus (intro w hSw; (try dsimp only at hSw); go_simp; try with_reducible rfl)
                  try simp only [Act.put, List.setIfInBounds_toArray, List.set_cons_zero, List.set_cons_succ]
                  refine wpAnyH_take (i := 22) (oi := { dst := some 194, op := Op.move (Operand.tmp 15), type := 3, pos := "apart.go:81", after := #[{ on := 13, ground := Ground.guard }], guard := some (13, false) }) (v := ?_) rfl (by kernel_rfl) (by kernel_rfl) (by kernel_rfl) (fun _ _ _ h => h) (Or.inl ⟨by kernel_rfl, ?_⟩) hHeld2 ?_
                  rotate_left
                  focus (intro w hSw; (try dsimp only at hSw); go_simp; try with_reducible rfl)
                  try simp only [Act.put, List.setIfInBounds_toArray, List.set_cons_zero, List.set_cons_succ]
                  refine wpAnyH_ready (rs := [23]) (by kernel_rfl) (by simp) ?_
                  refine AllReadyH.cons (o := { dst := some 195, op := Op.call { callee := Callee.value (Operand.func 61), args := #[Operand.tmp 193, Operand.tmp 194], argTypes := #[3, 3] }, type := 3, pos := "apart.go:81", after := #[{ on := 21, ground := Ground.data }, { on := 22, ground := Ground.data }, { on := 13, ground := Ground.chain }, { on := 13, ground := Ground.guard }], guard := some (13, false) }) rfl (fun K hK => ?_) AllReadyH.nil
                  go_simp
                  go_at_call 61
                  refine (HMR.out _).mono ?_
                  rintro er w6 ⟨rfl, hb6⟩
                  obtain ⟨h1, h2, h3, h4, h5⟩ := id hHeld2
                  have hS6 := And.intro (fkeep_cell hb6 h1) (And.intro (fkeep_cell hb6 h2) (And.intro (fkeep_cell hb6 h3) (And.intro (fkeep_cell hb6 h4) (Lib.hid (L2.below h5.out hb6 HM.out)))))
                  clear hb6 h1 h2 h3 h4 h5
                  try go_wp2_with fail
                  refine hK.out _ _ hS6 (fun hHeld22 => ?_)
                  clear hK K hS6
                  try simp only [Act.put, List.setIfInBounds_toArray, List.set_cons_zero, List.set_cons_succ]
                  refine wpAnyH_take (i := 24) (oi := { dst := some 196, op := Op.convert 3 46 (Operand.tmp 195), type := 46, pos := "apart.go:81", after := #[{ on := 23, ground := Ground.data }, { on := 13, ground := Ground.guard }], guard := some (13, false) }) (v := ?_) rfl (by kernel_rfl) (by kernel_rfl) (by kernel_rfl) (fun _ _ _ h => h) (Or.inl ⟨by kernel_rfl, ?_⟩) hHeld22 ?_
                  rotate_left
                  focus (intro w hSw; (try dsimp only at hSw); go_simp; try with_reducible rfl)
                  try simp only [Act.put, List.setIfInBounds_toArray, List.set_cons_zero, List.set_cons_succ]
                  refine wpAnyH_take (i := 25) (oi := { dst := some 197, op := Op.binOp BinOp.eql 46 (Operand.tmp 192) (Operand.tmp 196) 46, type := 4, pos := "apart.go:81", after := #[{ on := 20, ground := Ground.data }, { on := 24, ground := Ground.data }, { on := 13, ground := Ground.guard }], guard := some (13, false) }) (v := ?_) rfl (by kernel_rfl) (by kernel_rfl) (by kernel_rfl) (fun _ _ _ h => h) (Or.inl ⟨by kernel_rfl, ?_⟩) hHeld22 ?_
                  rotate_left
                  focus (intro w hSw; (try dsimp only at hSw); go_simp; try with_reducible rfl)
                  try simp only [Act.put, List.setIfInBounds_toArray, List.set_cons_zero, List.set_cons_succ]
                  refine wpAnyH_take (i := 26) (oi := { dst := some 198, op := Op.unOp UnOp.not 4 (Operand.tmp 197), type := 4, pos := "apart.go:81", after := #[{ on := 25, ground := Ground.data }, { on := 13, ground := Ground.guard }], guard := some (13, false) }) (v := ?_) rfl (by kernel_rfl) (by kernel_rfl) (by kernel_rfl) (fun _ _ _ h => h) (Or.inl ⟨by kernel_rfl, ?_⟩) hHeld22 ?_
                  rotate_left
                  focus (intro w hSw; (try dsimp only at hSw); go_simp; try with_reducible rfl)
                  try simp only [Act.put, List.setIfInBounds_toArray, List.set_cons_zero, List.set_cons_succ]
                  refine wpAnyH_take (i := 27) (oi := { dst := some 199, op := Op.pick (Operand.tmp 185) (Operand.const (Value.bool true)) (Operand.tmp 198), type := 4, pos := "apart.go:81", after := #[{ on := 13, ground := Ground.data }, { on := 26, ground := Ground.data }], guard := none }) (v := ?_) rfl (by kernel_rfl) (by kernel_rfl) (by kernel_rfl) (fun _ _ _ h => h) (Or.inl ⟨by kernel_rfl, ?_⟩) hHeld22 ?_
                  rotate_left
                  focus (intro w hSw; (try dsimp only at hSw); go_simp; try with_reducible rfl)
                  try simp only [Act.put, List.setIfInBounds_toArray, List.set_cons_zero, List.set_cons_succ]
                  refine wpAnyH_done (by kernel_rfl) ?_ _
                  go_wp2
                  go_roundw
                  case rel => exact ⟨i + 1, by omega, by go_num, hHeld22.2.2.2.2, hHeld22.1⟩
                  case measure => simp [intOf]; omega
                · have hiI : (n : Int) ≤ i := by omega
                  go_wp2
                  go_roundw
                  case rel => exact ⟨j + 1, by have := HJ.out; omega, by go_num, HL.out⟩
                  case measure => have := HJ.out; simp [intOf]; omega
              · have hjI3 : (k : Int) ≤ j := by omega
                go_wp2
                go_ret
                exact ⟨rfl, HL.out.but⟩
end Go.Proofs.YtcahnkocfbcchaaGreatDoor
