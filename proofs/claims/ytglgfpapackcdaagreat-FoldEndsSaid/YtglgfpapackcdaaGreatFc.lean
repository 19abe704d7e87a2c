/- The walk of the kit's flatRanges at rows that lie apart. -/
import Derived.Test.YtglgfpapackcdaaGreatFb

namespace Go.Proofs.YtglgfpapackcdaaGreat
open Go.RowKit

def mcR (k i : Nat) : List Value := [.int .i64 (mk k i), .int .i64 0]
theorem mcR_length (k i : Nat) : (mcR k i).length = 2 := rfl
theorem finfo_R : (Tryz.prog.info? 24).map (fun i => (i.zero, i.size, i.bytes)) = some (some (.agg #[.int .i64 0, .int .i64 0]), 2, 16) := by kernel_rfl
theorem finfo_RS : (Tryz.prog.info? 25).map (fun i => (i.zero, i.size, i.bytes)) = some (some (.slice none 0 0), 1, 24) := by kernel_rfl

theorem frange_stood : Tryz.prog.stoodInHeld 24 = false := by kernel_rfl
theorem frange_guard : Tryz.prog.eqGuardType Tryz.prog.depth 24 = false := by kernel_rfl
theorem frange_fields : Tryz.prog.underlying 24 = some (.struct (Tryz.prog.fieldsOf 24)) := by kernel_rfl
theorem fequal_range (d : Nat) (x x' y y' : Int) (w : World) : (Op.equalIn (d + 2) 24 (.agg #[.int .i64 x, .int .i64 x']) (.agg #[.int .i64 y, .int .i64 y'])).run Tryz.prog w = .ok (x == y && x' == y') w := by
  rw [run_equalIn_agg _ _ _ _ _ frange_fields frange_stood]
  simp only [Program.fieldsOf, Tryz.underlying24]
  by_cases h1 : x = y <;> by_cases h2 : x' = y' <;> simp [Op.eqFields, part, run_equalIn_int, Tryz.underlying3, h1, h2]

set_option maxHeartbeats 12800000 in
set_option maxRecDepth 100000 in
theorem flatRanges_any (q : Option Addr) (cq m : Nat) (ds : List D) (w : World) (hm : m = ds.length) (hq : SlD w q ds) (hr : ∀ k, k < m → Room w 2 (dg ds k)) (hfar : Far ds) (hm1 : m ≤ 130) (hn : ∀ k, k < m → (dg ds k).n ≤ 100000000) :
    Calls Tryz.prog 98 #[.slice q m cq] w fun e w' => e = .returned (.bool true) ∧ But (InD ds) w w' := by
  have HM := Lib.hid hm
  have HQ := Lib.hid hq
  have HF := Lib.hid hfar
  have HN := Lib.hid hn
  have HDW : Hid (∀ b, InD ds b → b < w.heap.size) := fun b ⟨j, hj, e⟩ => (hr j (by omega)).lt b e
  obtain ⟨i0, hinf, hz0, hz1, hz2⟩ := finfo_parts finfo_R
  obtain ⟨i1, hinf1, hy0, hy1, hy2⟩ := finfo_parts finfo_RS
  have HL := Lib.hid (show L1 2 mcR ds m w 0 w from ⟨But.refl _ _, hr, fun j hj => absurd hj (Nat.not_lt_zero j)⟩)
  have hmI : (m : Int) ≤ 130 := by omega
  clear hm hq hr hfar hn
  go_enter Tryz.func98, Tryz.ntmps98
  go_wp2
  go_loopw [3] (fun kv wr => ∃ (k : Nat), k ≤ m ∧ kv = .int .i64 (k : Nat) ∧ Hid (L1 2 mcR ds m w k wr)) (fun kv _ => m - (intOf kv).toNat)
  case atStart => exact ⟨0, Nat.zero_le _, rfl, HL.out⟩
  case round =>
    clear HL
    obtain ⟨k, hk, rfl, HL⟩ := hrel
    rename World => wr
    by_cases hkm : k < m
    · have hkI : (k : Int) < m := by omega
      obtain ⟨bq, oq, rfl, hcq, hnb, _⟩ := slD_at (slD_but HQ.out HL.out.but) (show k < ds.length by have := HM.out; omega)
      obtain ⟨⟨p, n, c⟩, hd⟩ : ∃ d, d = dg ds k := ⟨_, rfl⟩
      have hnn := HN.out k hkm
      rw [← hd] at hcq hnn
      simp only [D.val, D.ad] at hcq hnn
      obtain ⟨ad, had⟩ : ∃ ad, ad = p.map fun b => (⟨b, 0, none⟩ : Addr) := ⟨_, rfl⟩
      rw [← had] at hcq
      have HD := Lib.hid hd.symm
      have HAD := Lib.hid had
      have HNB := Lib.hid hnb
      have hnI : (n : Int) ≤ 100000000 := by omega
      clear hd had hnb hnn
      go_wp2
      go_loopw [4] (fun iv wq => ∃ (i : Nat), i ≤ n ∧ iv = .int .i64 (i : Nat) ∧ Hid (L1 2 mcR ds m w k wq) ∧ Hid (Fill wq (dg ds k) (mrow mcR k i)) ∧ wq.cell? ⟨bq, oq + k, none⟩ = some (.slice ad n c)) (fun iv _ => n - (intOf iv).toNat)
      case atStart => exact ⟨0, Nat.zero_le _, rfl, HL.out, (fun b hb j u hu => by simp [mrow] at hu), hcq⟩
      case round =>
        clear HL hcq
        obtain ⟨i, hi, rfl, HL, HFI, hcq⟩ := hrel
        rename World => wq
        by_cases hin : i < n
        · have hiI : (i : Int) < n := by omega
          obtain ⟨b, hb⟩ := room_some (HL.out.room k hkm) (by rw [HD.out]; simp only; omega)
          rw [HD.out] at hb
          simp only at hb
          subst hb
          have had := HAD.out
          simp only [Option.map_some] at had
          subst had
          have hroom := HL.out.room k hkm
          rw [HD.out] at hroom
          obtain ⟨s0, f0⟩ := hroom.cell b rfl (i * 2) (by have := hroom.le; simp only at this ⊢; omega)
          obtain ⟨s1, f1⟩ := hroom.cell b rfl (i * 2 + 1) (by have := hroom.le; simp only at this ⊢; omega)
          obtain ⟨u0, hu0⟩ := Option.isSome_iff_exists.1 s0
          obtain ⟨u1, hu1⟩ := Option.isSome_iff_exists.1 s1
          obtain ⟨x, hx⟩ : ∃ x, x = mk k i := ⟨_, rfl⟩
          have HMR := Lib.hid (fun W => markRange2_any k i W (by omega) (by omega))
          rw [← hx] at HMR
          have HX := Lib.hid hx
          clear hroom s0 s1 hx
          go_wp2
          go_region_with (go_at_call 74; refine (HMR.out _).mono ?_; rintro e w6 ⟨rfl, hb6⟩; have hcq6 := fkeep_cell hb6 hcq; have hu06 := fkeep_cell hb6 hu0; have hu16 := fkeep_cell hb6 hu1; have f06 := fkeep_frozen hb6 hu0 f0; have f16 := fkeep_frozen hb6 hu1 f1; have HB6 := Lib.hid hb6; clear hb6)
          all_goals
            have hL6 : L1 2 mcR ds m w k w6 := HL.out.below (fl_drew HB6.out)
            have hF6 : Fill w6 (dg ds k) (mrow mcR k i) := HFI.out.below (HL.out.room k hkm) (fl_drew HB6.out)
            have hnew := mark_one mcR_length (w' := (w6.setCell ⟨b, i * 2, none⟩ (.int .i64 x)).setCell ⟨b, i * 2 + 1, none⟩ (.int .i64 0)) HM.out HF.out hL6 hkm HD.out hin hF6 (by rw [HX.out]; rfl)
            have HNEW := Lib.hid hnew
            have hcn := slD_cell (slD_but HQ.out hnew.1.but) (show k < ds.length by have := HM.out; omega)
            rw [HD.out, val_some] at hcn
            clear hL6 hF6 hnew
            go_wp2
            go_roundw
          case rel => exact ⟨i + 1, by omega, by go_num, HNEW.out.1, HNEW.out.2, hcn⟩
          case measure => simp [intOf]; omega
          case rel => exact ⟨i + 1, by omega, by go_num, HNEW.out.1, HNEW.out.2, hcn⟩
          case measure => simp [intOf]; omega
        · have hiI : (n : Int) ≤ i := by omega
          obtain rfl : i = n := by omega
          go_wp2
          go_roundw
          case rel => exact ⟨k + 1, by omega, by go_num, ⟨HL.out.but, HL.out.room, fun j hj hjm => by
            by_cases e : j = k
            · subst e; have := HFI.out; rw [HD.out] at this ⊢; exact this
            · exact HL.out.fill j (by omega) hjm⟩⟩
          case measure => simp [intOf]; omega
    · have hkI : (m : Int) ≤ k := by omega
      obtain rfl : k = m := by omega
      go_wp2_with (at_make; refine wpList_make_full _ rfl _ _ 26 rfl wr.heap.size 25 i1 (.slice none 0 0) 1 Tryz.underlying26 hinf1 hy0 hy1 .i64 .i64 _ _ k rfl rfl rfl rfl (by rw [hy2]; omega) (by simp only [maxLen]; omega) (Nat.le_refl _) ?_; intro w2 ho2 hg2)
      have hL2 : L2 2 mcR ds [] k 64 wr.heap.size w2.heap.size w w2 := L2.start HL.out hg2 ho2 HM.out HDW.out
      have HL2 := Lib.hid hL2
      clear hL2 ho2 hg2 HL
      generalize wr.heap.size = G at *
      generalize hZ : w2.heap.size = Z at *
      clear hZ wr
      go_loopw [6] (fun kv wr => ∃ (j : Nat) (es : List D), j ≤ k ∧ kv = .int .i64 (j : Nat) ∧ Hid (es.length = j) ∧ Hid (L2 2 mcR ds es k 64 G Z w wr)) (fun kv _ => k - (intOf kv).toNat)
      case atStart => exact ⟨0, [], Nat.zero_le _, rfl, rfl, HL2.out⟩
      case round =>
        clear HL2
        obtain ⟨j, es, hj, rfl, HE, HL⟩ := hrel
        rename World => wr
        by_cases hjk : j < k
        · have hjI : (j : Int) < k := by omega
          obtain ⟨bq, oq, rfl, hcq, hnb, _⟩ := slD_at (slD_but HQ.out HL.out.but) (show j < ds.length by have := HM.out; omega)
          obtain ⟨⟨p, n, c⟩, hd⟩ : ∃ d, d = dg ds j := ⟨_, rfl⟩
          have hnn := HN.out j hjk
          rw [← hd] at hcq hnn
          simp only at hnn
          have hv : D.val ⟨p, n, c⟩ = .slice (D.ad ⟨p, n, c⟩) n c := rfl
          rw [hv] at hcq
          obtain ⟨ad, had⟩ : ∃ ad, ad = D.ad ⟨p, n, c⟩ := ⟨_, rfl⟩
          rw [← had] at hcq
          have HD := Lib.hid hd.symm
          have HAD := Lib.hid had
          have hnI : (n : Int) ≤ 100000000 := by omega
          have HAT : Hid (At2 ds es j G Z wr ⟨p, n, c⟩) := by have := HL.out.at0 (by rw [HE.out]; exact hjk); rw [HE.out, HD.out] at this; exact this
          have HRM : Hid (Room wr 2 ⟨p, n, c⟩) := by have := HL.out.room j hjk; rw [HD.out] at this; exact this
          have HFI : Hid (Fill wr ⟨p, n, c⟩ (mrow mcR j (n + 0))) := by have := HL.out.fill j hjk; rw [HD.out] at this; exact this
          have HJ := Lib.hid hjk
          clear hd hnb hnn hv had hjk
          go_wp2
          go_loopw [7, 8] (fun gv iv wq => ∃ (i : Nat) (e : D), i ≤ 64 ∧ gv = e.val ∧ iv = .int .i64 (i : Nat) ∧ Hid (L2 2 mcR ds es k 64 G Z w wq) ∧ Hid (At2 ds es j G Z wq e) ∧ Hid (Room wq 2 e) ∧ Hid (Fill wq e (mrow mcR j (n + i))) ∧ Hid (e.n = n + i) ∧ wq.cell? ⟨bq, oq + j, none⟩ = some (.slice ad n c)) (fun _ iv _ => 64 - (intOf iv).toNat)
          case atStart => exact ⟨0, ⟨p, n, c⟩, Nat.zero_le _, (by rw [HAD.out]; rfl), rfl, HL.out, HAT.out, HRM.out, HFI.out, rfl, hcq⟩
          case round =>
            clear HL HAT HRM HFI hcq
            obtain ⟨i, e, hi, rfl, rfl, HL, HAT, HRM, HFI, HEN, hcq⟩ := hrel
            rename World => wq
            by_cases hi64 : i < 64
            · have hiI : (i : Int) < 64 := by omega
              have hen := HEN.out
              obtain ⟨x, hx⟩ : ∃ x, x = mk j (n + i) := ⟨_, rfl⟩
              have HMR : Hid (∀ (W : World) (z : Int), z = (n : Int) + i → Calls Tryz.prog 74 #[.int .i64 (j : Nat), .int .i64 z] W fun e w' => e = .returned (.agg #[.int .i64 x, .int .i64 0]) ∧ Below W.heap.size W w') := by
                rintro W z rfl
                have := markRange2_any j (n + i) W (by omega) (by omega)
                rw [← hx] at this
                rw [← Int.natCast_add]; exact this
              have HX := Lib.hid hx
              have HI := Lib.hid hi64
              have HNI := Lib.hid (show n ≤ 100000000 by omega)
              have HEB := Lib.hid (show e.n ≤ 100000100 by omega)
              clear hx hi64 hen hi
              go_wp2_with (first
                | (go_at_call 74; refine (HMR.out _ _ (by first | rfl | omega)).mono ?_; rintro er w6 ⟨rfl, hb6⟩; have HB6 := Lib.hid hb6; clear hb6)
                | (at_builtin; refine wpList_append_far rfl _ _ 25 rfl 24 i0 (.agg #[.int .i64 0, .int .i64 0]) 2 16 Tryz.underlying25 hinf hz0 hz1 hz2 rfl (by decide) e rfl ((HRM.out.below HB6.out).below ((Below.refl _ _).alloc (Nat.le_refl _) _)) _ ?c1 ((HFI.out.below HRM.out HB6.out).below (HRM.out.below HB6.out) ((Below.refl _ _).alloc (Nat.le_refl _) _)) ⟨w6.heap.size, 0, none⟩ 1 1 [.int .i64 x, .int .i64 0] rfl rfl (two_new _ _ _ _) (by simp [Value.oneCell']) (by decide) ?c2 ?c3 ?_))
              case c1 => rw [mrow_length mcR_length, HEN.out]
              case c2 => have := HEB.out; simp only [maxLen]; omega
              case c3 => have := HEB.out; omega
              intro e' w7 hgr
              have hL6 := (HL.out.below HB6.out HM.out).below ((Below.refl w6.heap.size w6).alloc (Nat.le_refl _) (.cells #[.int .i64 x, .int .i64 0] 24)) HM.out
              have hstep := hL6.grewAt HM.out HF.out HE.out HJ.out HAT.out.world (n := n) (by rw [HD.out]) (by have := HEN.out; omega) mcR_length hgr
              have HS := Lib.hid hstep
              have HFN : Hid (Fill w7 e' (mrow mcR j (n + (i + 1)))) := by
                show Fill w7 e' _
                have := HS.out.2.2.2.1
                rw [← Nat.add_assoc, mrow_succ]
                rw [show mcR j (n + i) = [.int .i64 x, .int .i64 0] by rw [HX.out]; rfl]
                exact this
              have HEN2 : Hid (e'.n = n + (i + 1)) := by have := HS.out.2.2.2.2; have := HEN.out; show _ = _; omega
              have hcn := slD_cell (slD_but HQ.out hstep.1.but) (show j < ds.length by have := HM.out; have := HJ.out; omega)
              rw [HD.out, show D.val ⟨p, n, c⟩ = .slice ad n c by rw [HAD.out]; rfl] at hcn
              clear hL6 hstep hgr hcq
              go_wp2
              go_roundw
              case rel => exact ⟨i + 1, e', by have := HI.out; omega, rfl, by go_num, HS.out.1, HS.out.2.1, HS.out.2.2.1, HFN, HEN2, hcn⟩
              case measure => have := HI.out; simp [intOf]; omega
            · have hiI : (64 : Int) ≤ i := by omega
              obtain rfl : i = 64 := by omega
              obtain ⟨p', n', c'⟩ := e
              obtain ⟨ad', had'⟩ : ∃ a, a = D.ad ⟨p', n', c'⟩ := ⟨_, rfl⟩
              rw [show D.val ⟨p', n', c'⟩ = .slice ad' n' c' by rw [had']; rfl]
              obtain ⟨f1, f2⟩ := HL.out.free j HJ.out
              obtain ⟨u0, hu0⟩ := Option.isSome_iff_exists.1 f1
              have hput := HL.out.putAt HM.out HE.out HJ.out HAT.out (n := n) (by rw [HD.out]) HRM.out HFI.out HEN.out
              rw [show D.val ⟨p', n', c'⟩ = .slice ad' n' c' by rw [had']; rfl] at hput
              have HPUT := Lib.hid hput
              clear had' hput f1 hcq
              go_wp2
              go_roundw
              case rel => exact ⟨j + 1, _, by have := HJ.out; omega, by go_num, HPUT.out.2, HPUT.out.1⟩
              case measure => have := HJ.out; simp [intOf]; omega
        · have hjI : (k : Int) ≤ j := by omega
          obtain rfl : k = j := by omega
          clear hj
          go_wp2
          go_loopw [9] (fun kv wr => ∃ (j : Nat), j ≤ k ∧ kv = .int .i64 (j : Nat) ∧ Hid (L2 2 mcR ds es k 64 G Z w wr)) (fun kv _ => k - (intOf kv).toNat)
          case atStart => exact ⟨0, Nat.zero_le _, rfl, HL.out⟩
          case round =>
          clear HL
          obtain ⟨j, hj, rfl, HL⟩ := hrel
          rename World => wr
          by_cases hjk : j < k
          · have hjI2 : (j : Int) < k := by omega
            obtain ⟨bq, oq, rfl, hcq, hnb, _⟩ := slD_at (slD_but HQ.out HL.out.but) (show j < ds.length by have := HM.out; omega)
            obtain ⟨⟨p, n, c⟩, hd⟩ : ∃ d, d = dg ds j := ⟨_, rfl⟩
            obtain ⟨⟨p2, n2, c2⟩, he⟩ : ∃ d, d = dg es j := ⟨_, rfl⟩
            have hnn := HN.out j hjk
            have hn2 := HL.out.nE j (by rw [HE.out]; exact hjk)
            have hcg := HL.out.cell j (by rw [HE.out]; exact hjk)
            have hre := HL.out.roomE j (by rw [HE.out]; exact hjk)
            rw [← hd] at hcq hnn hn2
            rw [← he] at hn2 hcg hre
            simp only at hnn hn2
            subst hn2
            obtain ⟨b2, hb2⟩ := room_some hre (by simp only; omega)
            simp only at hb2
            subst hb2
            rw [val_some] at hcg
            have hv : D.val ⟨p, n, c⟩ = .slice (D.ad ⟨p, n, c⟩) n c := rfl
            rw [hv] at hcq
            obtain ⟨ad, had⟩ : ∃ ad, ad = D.ad ⟨p, n, c⟩ := ⟨_, rfl⟩
            rw [← had] at hcq
            have HD := Lib.hid hd.symm
            have HED := Lib.hid he.symm
            have HAD := Lib.hid had
            have hnI : (n : Int) ≤ 100000000 := by omega
            have hcI : (n : Int) + 64 ≤ c2 := by have := hre.le; simp only at this; omega
            have HJ := Lib.hid hjk
            clear hd he hnb hnn hv had hre hjk
            go_wp2
            go_loopw [10] (fun iv wq => ∃ (i : Nat), i ≤ n + 64 ∧ iv = .int .i64 (i : Nat) ∧ Hid (L2 2 mcR ds es k 64 G Z w wq) ∧ wq.cell? ⟨bq, oq + j, none⟩ = some (.slice ad n c) ∧ wq.cell? ⟨G, j, none⟩ = some (.slice (some ⟨b2, 0, none⟩) (n + 64) c2)) (fun iv _ => n + 64 - (intOf iv).toNat)
            case atStart => exact ⟨0, Nat.zero_le _, rfl, HL.out, hcq, hcg⟩
            case round =>
              clear HL hcq hcg
              obtain ⟨i, hi, rfl, HL, hcq, hcg⟩ := hrel
              rename World => wq
              by_cases hi64 : i < n + 64
              · have hiI : (i : Int) < (n : Int) + 64 := by omega
                have hfe := HL.out.fillE j (by rw [HE.out]; exact HJ.out)
                rw [HED.out, HD.out] at hfe
                obtain ⟨x, hx⟩ : ∃ x, x = mk j i := ⟨_, rfl⟩
                have hx1 := mrow_cell mcR_length hfe rfl hi64 (show 0 < 2 by omega) (show (mcR j i)[0]? = some (.int .i64 x) by rw [hx]; rfl)
                have hx2 := mrow_cell mcR_length hfe rfl hi64 (show 1 < 2 by omega) (show (mcR j i)[1]? = some (.int .i64 0) from rfl)
                rw [Nat.add_zero] at hx1
                have HMR := Lib.hid (fun W => markRange2_any j i W (by have := HJ.out; omega) (by omega))
                rw [← hx] at HMR
                have HX := Lib.hid hx
                have hgd := frange_guard
                have heq := fun W => fequal_range 9998 x 0 x 0 W
                rw [show (x == x && (0 : Int) == 0) = true by simp] at heq
                clear hfe hx
                by_cases hin : i < n
                · have hiJ : (i : Int) < n := by omega
                  have hlt : decide ((i : Int) < n) = true := by rw [decide_eq_true_iff]; omega
                  have hltN : decide (i < n) = true := by rw [decide_eq_true_iff]; omega
                  have hroom := HL.out.room j HJ.out
                  obtain ⟨b, hb⟩ := room_some hroom (by rw [HD.out]; simp only; omega)
                  rw [HD.out] at hb hroom
                  simp only at hb
                  subst hb
                  have had := HAD.out
                  rw [show D.ad ⟨some b, n, c⟩ = some ⟨b, 0, none⟩ from rfl] at had
                  subst had
                  have hfd := HL.out.fill j HJ.out
                  rw [HD.out] at hfd
                  have hx3 := mrow_cell mcR_length hfd rfl hin (show 0 < 2 by omega) (show (mcR j i)[0]? = some (.int .i64 x) by rw [HX.out]; rfl)
                  have hx4 := mrow_cell mcR_length hfd rfl hin (show 1 < 2 by omega) (show (mcR j i)[1]? = some (.int .i64 0) from rfl)
                  rw [Nat.add_zero] at hx3
                  clear hfd hroom
                  go_wp2
                  refine wp_region_held_drew (S := (fun W => W.cell? ⟨bq, oq + j, none⟩ = some (.slice (some ⟨b, 0, none⟩) n c) ∧ W.cell? ⟨G, j, none⟩ = some (.slice (some ⟨b2, 0, none⟩) (n + 64) c2) ∧ W.cell? ⟨b2, i * 2, none⟩ = some (.int .i64 x) ∧ W.cell? ⟨b2, i * 2 + 1, none⟩ = some (.int .i64 0) ∧ W.cell? ⟨b, i * 2, none⟩ = some (.int .i64 x) ∧ W.cell? ⟨b, i * 2 + 1, none⟩ = some (.int .i64 0) ∧ Hid (L2 2 mcR ds es k 64 G Z w W))) (by kernel_rfl) ⟨hcq, hcg, hx1, hx2, hx3, hx4, HL.out.below ((Below.refl _ _).drew) HM.out⟩ (fun hHeld => ?_)
                  refine wpAnyH_take (i := 0) (oi := ⟨some 88, Op.move (.tmp 5), 26, "apart.go:482", #[], none⟩) (v := ?_) rfl (by kernel_rfl) (by kernel_rfl) (by kernel_rfl) (fun _ _ _ h => h) (Or.inl ⟨by kernel_rfl, ?_⟩) hHeld ?_
                  rotate_left
                  focus (intro w hSw; (try dsimp only at hSw); go_simp; try with_reducible rfl)
                  try simp only [Act.put, List.setIfInBounds_toArray, List.set_cons_zero, List.set_cons_succ]
                  refine wpAnyH_take (i := 1) (oi := ⟨some 89, Op.move (.tmp 9), 3, "apart.go:482", #[], none⟩) (v := ?_) rfl (by kernel_rfl) (by kernel_rfl) (by kernel_rfl) (fun _ _ _ h => h) (Or.inl ⟨by kernel_rfl, ?_⟩) hHeld ?_
                  rotate_left
                  focus (intro w hSw; (try dsimp only at hSw); go_simp; try with_reducible rfl)
                  try simp only [Act.put, List.setIfInBounds_toArray, List.set_cons_zero, List.set_cons_succ]
                  refine wpAnyH_take (i := 2) (oi := ⟨some 90, Op.indexAddr 26 (.tmp 88) (.tmp 89), 0, "apart.go:482", #[⟨0, .data⟩, ⟨1, .data⟩], none⟩) (v := ?_) rfl (by kernel_rfl) (by kernel_rfl) (by kernel_rfl) (fun _ _ _ h => h) (Or.inl ⟨by kernel_rfl, ?_⟩) hHeld ?_
                  rotate_left
                  focus (intro w hSw; (try dsimp only at hSw); go_simp; try with_reducible rfl)
                  try simp only [Act.put, List.setIfInBounds_toArray, List.set_cons_zero, List.set_cons_succ]
                  refine wpAnyH_take (i := 3) (oi := ⟨some 91, Op.load 25 (.tmp 90), 25, "apart.go:482", #[⟨2, .data⟩], none⟩) (v := ?_) rfl (by kernel_rfl) (by kernel_rfl) (by kernel_rfl) (fun _ _ _ h => h) (Or.inl ⟨by kernel_rfl, ?_⟩) hHeld ?_
                  rotate_left
                  focus (intro w hSw; (try dsimp only at hSw); go_simp; try with_reducible rfl)
                  try simp only [Act.put, List.setIfInBounds_toArray, List.set_cons_zero, List.set_cons_succ]
                  refine wpAnyH_take (i := 4) (oi := ⟨some 92, Op.move (.tmp 10), 3, "apart.go:482", #[], none⟩) (v := ?_) rfl (by kernel_rfl) (by kernel_rfl) (by kernel_rfl) (fun _ _ _ h => h) (Or.inl ⟨by kernel_rfl, ?_⟩) hHeld ?_
                  rotate_left
                  focus (intro w hSw; (try dsimp only at hSw); go_simp; try with_reducible rfl)
                  try simp only [Act.put, List.setIfInBounds_toArray, List.set_cons_zero, List.set_cons_succ]
                  refine wpAnyH_take (i := 5) (oi := ⟨some 93, Op.indexAddr 25 (.tmp 91) (.tmp 92), 0, "apart.go:482", #[⟨3, .data⟩, ⟨4, .data⟩], none⟩) (v := ?_) rfl (by kernel_rfl) (by kernel_rfl) (by kernel_rfl) (fun _ _ _ h => h) (Or.inl ⟨by kernel_rfl, ?_⟩) hHeld ?_
                  rotate_left
                  focus (intro w hSw; (try dsimp only at hSw); go_simp; try with_reducible rfl)
                  try simp only [Act.put, List.setIfInBounds_toArray, List.set_cons_zero, List.set_cons_succ]
                  refine wpAnyH_take (i := 6) (oi := ⟨some 94, Op.load 24 (.tmp 93), 24, "apart.go:482", #[⟨5, .data⟩], none⟩) (v := ?_) rfl (by kernel_rfl) (by kernel_rfl) (by kernel_rfl) (fun _ _ _ h => h) (Or.inl ⟨by kernel_rfl, ?_⟩) hHeld ?_
                  rotate_left
                  focus (intro w hSw; (try dsimp only at hSw); go_simp; try with_reducible rfl)
                  try simp only [Act.put, List.setIfInBounds_toArray, List.set_cons_zero, List.set_cons_succ]
                  refine wpAnyH_take (i := 7) (oi := ⟨some 95, Op.move (.tmp 9), 3, "apart.go:482", #[], none⟩) (v := ?_) rfl (by kernel_rfl) (by kernel_rfl) (by kernel_rfl) (fun _ _ _ h => h) (Or.inl ⟨by kernel_rfl, ?_⟩) hHeld ?_
                  rotate_left
                  focus (intro w hSw; (try dsimp only at hSw); go_simp; try with_reducible rfl)
                  try simp only [Act.put, List.setIfInBounds_toArray, List.set_cons_zero, List.set_cons_succ]
                  refine wpAnyH_take (i := 8) (oi := ⟨some 96, Op.move (.tmp 10), 3, "apart.go:482", #[], none⟩) (v := ?_) rfl (by kernel_rfl) (by kernel_rfl) (by kernel_rfl) (fun _ _ _ h => h) (Or.inl ⟨by kernel_rfl, ?_⟩) hHeld ?_
                  rotate_left
                  focus (intro w hSw; (try dsimp only at hSw); go_simp; try with_reducible rfl)
                  try simp only [Act.put, List.setIfInBounds_toArray, List.set_cons_zero, List.set_cons_succ]
                  refine wpAnyH_ready (rs := [9]) (by kernel_rfl) (by simp) ?_
                  refine AllReadyH.cons (o := ⟨some 97, Op.call ⟨.value (.func 74), #[.tmp 95, .tmp 96], #[3, 3]⟩, 24, "apart.go:482", #[⟨7, .data⟩, ⟨8, .data⟩], none⟩) rfl (fun K hK => ?_) AllReadyH.nil
                  go_simp
                  go_at_call 74
                  refine (HMR.out _).mono ?_
                  rintro er w6 ⟨rfl, hb6⟩
                  obtain ⟨h1, h2, h3, h4, h5, h6, h7⟩ := id hHeld
                  have hS6 := And.intro (fkeep_cell hb6 h1) (And.intro (fkeep_cell hb6 h2) (And.intro (fkeep_cell hb6 h3) (And.intro (fkeep_cell hb6 h4) (And.intro (fkeep_cell hb6 h5) (And.intro (fkeep_cell hb6 h6) (Lib.hid (L2.below h7.out hb6 HM.out)))))))
                  clear hb6 h1 h2 h3 h4 h5 h6 h7
                  try go_wp2_with fail
                  refine hK.out _ _ hS6 (fun hHeld2 => ?_)
                  clear hK K hS6
                  try simp only [Act.put, List.setIfInBounds_toArray, List.set_cons_zero, List.set_cons_succ]
                  refine wpAnyH_take (i := 10) (oi := ⟨some 98, Op.binOp BinOp.eql 24 (.tmp 94) (.tmp 97) 24, 4, "apart.go:482", #[⟨6, .data⟩, ⟨9, .data⟩], none⟩) (v := ?_) rfl (by kernel_rfl) (by kernel_rfl) (by kernel_rfl) (fun _ _ _ h => h) (Or.inl ⟨by kernel_rfl, ?_⟩) hHeld2 ?_
                  rotate_left
                  focus (intro w hSw; (try dsimp only at hSw); go_simp; try with_reducible rfl)
                  try simp only [Act.put, List.setIfInBounds_toArray, List.set_cons_zero, List.set_cons_succ]
                  refine wpAnyH_take (i := 11) (oi := ⟨some 99, Op.unOp UnOp.not 4 (.tmp 98), 4, "apart.go:482", #[⟨10, .data⟩], none⟩) (v := ?_) rfl (by kernel_rfl) (by kernel_rfl) (by kernel_rfl) (fun _ _ _ h => h) (Or.inl ⟨by kernel_rfl, ?_⟩) hHeld2 ?_
                  rotate_left
                  focus (intro w hSw; (try dsimp only at hSw); go_simp; try with_reducible rfl)
                  try simp only [Act.put, List.setIfInBounds_toArray, List.set_cons_zero, List.set_cons_succ]
                  refine wpAnyH_take (i := 12) (oi := ⟨some 100, Op.move (.tmp 99), 4, "apart.go:482", #[⟨11, .data⟩, ⟨9, .chain⟩], none⟩) (v := ?_) rfl (by kernel_rfl) (by kernel_rfl) (by kernel_rfl) (fun _ _ _ h => h) (Or.inl ⟨by kernel_rfl, ?_⟩) hHeld2 ?_
                  rotate_left
                  focus (intro w hSw; (try dsimp only at hSw); go_simp; try with_reducible rfl)
                  try simp only [Act.put, List.setIfInBounds_toArray, List.set_cons_zero, List.set_cons_succ]
                  refine wpAnyH_take (i := 13) (oi := ⟨some 101, Op.move (.tmp 10), 3, "apart.go:482", #[⟨12, .guard⟩], some (12, false)⟩) (v := ?_) rfl (by kernel_rfl) (by kernel_rfl) (by kernel_rfl) (fun _ _ _ h => h) (Or.inl ⟨by kernel_rfl, ?_⟩) hHeld2 ?_
                  rotate_left
                  focus (intro w hSw; (try dsimp only at hSw); go_simp; try with_reducible rfl)
                  try simp only [Act.put, List.setIfInBounds_toArray, List.set_cons_zero, List.set_cons_succ]
                  refine wpAnyH_take (i := 14) (oi := ⟨some 102, Op.move (.tmp 0), 26, "apart.go:482", #[⟨12, .guard⟩], some (12, false)⟩) (v := ?_) rfl (by kernel_rfl) (by kernel_rfl) (by kernel_rfl) (fun _ _ _ h => h) (Or.inl ⟨by kernel_rfl, ?_⟩) hHeld2 ?_
                  rotate_left
                  focus (intro w hSw; (try dsimp only at hSw); go_simp; try with_reducible rfl)
                  try simp only [Act.put, List.setIfInBounds_toArray, List.set_cons_zero, List.set_cons_succ]
                  refine wpAnyH_take (i := 15) (oi := ⟨some 103, Op.move (.tmp 9), 3, "apart.go:482", #[⟨12, .guard⟩], some (12, false)⟩) (v := ?_) rfl (by kernel_rfl) (by kernel_rfl) (by kernel_rfl) (fun _ _ _ h => h) (Or.inl ⟨by kernel_rfl, ?_⟩) hHeld2 ?_
                  rotate_left
                  focus (intro w hSw; (try dsimp only at hSw); go_simp; try with_reducible rfl)
                  try simp only [Act.put, List.setIfInBounds_toArray, List.set_cons_zero, List.set_cons_succ]
                  refine wpAnyH_take (i := 16) (oi := ⟨some 104, Op.indexAddr 26 (.tmp 102) (.tmp 103), 0, "apart.go:482", #[⟨14, .data⟩, ⟨15, .data⟩, ⟨12, .guard⟩], some (12, false)⟩) (v := ?_) rfl (by kernel_rfl) (by kernel_rfl) (by kernel_rfl) (fun _ _ _ h => h) (Or.inl ⟨by kernel_rfl, ?_⟩) hHeld2 ?_
                  rotate_left
                  focus (intro w hSw; (try dsimp only at hSw); go_simp; try with_reducible rfl)
                  try simp only [Act.put, List.setIfInBounds_toArray, List.set_cons_zero, List.set_cons_succ]
                  refine wpAnyH_take (i := 17) (oi := ⟨some 105, Op.load 25 (.tmp 104), 25, "apart.go:482", #[⟨16, .data⟩, ⟨12, .guard⟩], some (12, false)⟩) (v := ?_) rfl (by kernel_rfl) (by kernel_rfl) (by kernel_rfl) (fun _ _ _ h => h) (Or.inl ⟨by kernel_rfl, ?_⟩) hHeld2 ?_
                  rotate_left
                  focus (intro w hSw; (try dsimp only at hSw); go_simp; try with_reducible rfl)
                  try simp only [Act.put, List.setIfInBounds_toArray, List.set_cons_zero, List.set_cons_succ]
                  refine wpAnyH_take (i := 18) (oi := ⟨some 106, Op.call { callee := Callee.builtin Builtin.len, args := #[.tmp 105], argTypes := #[25] }, 3, "apart.go:482", #[⟨17, .data⟩, ⟨12, .guard⟩], some (12, false)⟩) (v := ?_) rfl (by kernel_rfl) (by kernel_rfl) (by kernel_rfl) (fun _ _ _ h => h) (Or.inl ⟨by kernel_rfl, ?_⟩) hHeld2 ?_
                  rotate_left
                  focus (intro w hSw; (try dsimp only at hSw); go_simp; try with_reducible rfl)
                  try simp only [Act.put, List.setIfInBounds_toArray, List.set_cons_zero, List.set_cons_succ]
                  refine wpAnyH_take (i := 19) (oi := ⟨some 107, Op.binOp BinOp.lss 3 (.tmp 101) (.tmp 106) 3, 4, "apart.go:482", #[⟨13, .data⟩, ⟨18, .data⟩, ⟨12, .guard⟩], some (12, false)⟩) (v := ?_) rfl (by kernel_rfl) (by kernel_rfl) (by kernel_rfl) (fun _ _ _ h => h) (Or.inl ⟨by kernel_rfl, ?_⟩) hHeld2 ?_
                  rotate_left
                  focus (intro w hSw; (try dsimp only at hSw); go_simp; try with_reducible rfl)
                  try simp only [Act.put, List.setIfInBounds_toArray, List.set_cons_zero, List.set_cons_succ]
                  refine wpAnyH_take (i := 20) (oi := ⟨some 108, Op.move (.tmp 107), 4, "apart.go:482", #[⟨19, .data⟩, ⟨12, .chain⟩, ⟨12, .guard⟩], some (12, false)⟩) (v := ?_) rfl (by kernel_rfl) (by kernel_rfl) (by kernel_rfl) (fun _ _ _ h => h) (Or.inl ⟨by kernel_rfl, ?_⟩) hHeld2 ?_
                  rotate_left
                  focus (intro w hSw; (try dsimp only at hSw); go_simp; try with_reducible rfl)
                  try simp only [Act.put, List.setIfInBounds_toArray, List.set_cons_zero, List.set_cons_succ]
                  refine wpAnyH_take (i := 21) (oi := ⟨some 109, Op.move (.tmp 0), 26, "apart.go:482", #[⟨20, .guard⟩], some (20, true)⟩) (v := ?_) rfl (by kernel_rfl) (by kernel_rfl) (by kernel_rfl) (fun _ _ _ h => h) (Or.inl ⟨by kernel_rfl, ?_⟩) hHeld2 ?_
                  rotate_left
                  focus (intro w hSw; (try dsimp only at hSw); go_simp; try with_reducible rfl)
                  try simp only [Act.put, List.setIfInBounds_toArray, List.set_cons_zero, List.set_cons_succ]
                  refine wpAnyH_take (i := 22) (oi := ⟨some 110, Op.move (.tmp 9), 3, "apart.go:482", #[⟨20, .guard⟩], some (20, true)⟩) (v := ?_) rfl (by kernel_rfl) (by kernel_rfl) (by kernel_rfl) (fun _ _ _ h => h) (Or.inl ⟨by kernel_rfl, ?_⟩) hHeld2 ?_
                  rotate_left
                  focus (intro w hSw; (try dsimp only at hSw); go_simp; try with_reducible rfl)
                  try simp only [Act.put, List.setIfInBounds_toArray, List.set_cons_zero, List.set_cons_succ]
                  refine wpAnyH_take (i := 23) (oi := ⟨some 111, Op.indexAddr 26 (.tmp 109) (.tmp 110), 0, "apart.go:482", #[⟨21, .data⟩, ⟨22, .data⟩, ⟨20, .guard⟩], some (20, true)⟩) (v := ?_) rfl (by kernel_rfl) (by kernel_rfl) (by kernel_rfl) (fun _ _ _ h => h) (Or.inl ⟨by kernel_rfl, ?_⟩) hHeld2 ?_
                  rotate_left
                  focus (intro w hSw; (try dsimp only at hSw); go_simp; try with_reducible rfl)
                  try simp only [Act.put, List.setIfInBounds_toArray, List.set_cons_zero, List.set_cons_succ]
                  refine wpAnyH_take (i := 24) (oi := ⟨some 112, Op.load 25 (.tmp 111), 25, "apart.go:482", #[⟨23, .data⟩, ⟨20, .guard⟩], some (20, true)⟩) (v := ?_) rfl (by kernel_rfl) (by kernel_rfl) (by kernel_rfl) (fun _ _ _ h => h) (Or.inl ⟨by kernel_rfl, ?_⟩) hHeld2 ?_
                  rotate_left
                  focus (intro w hSw; (try dsimp only at hSw); go_simp; try with_reducible rfl)
                  try simp only [Act.put, List.setIfInBounds_toArray, List.set_cons_zero, List.set_cons_succ]
                  refine wpAnyH_take (i := 25) (oi := ⟨some 113, Op.move (.tmp 10), 3, "apart.go:482", #[⟨20, .guard⟩], some (20, true)⟩) (v := ?_) rfl (by kernel_rfl) (by kernel_rfl) (by kernel_rfl) (fun _ _ _ h => h) (Or.inl ⟨by kernel_rfl, ?_⟩) hHeld2 ?_
                  rotate_left
                  focus (intro w hSw; (try dsimp only at hSw); go_simp; try with_reducible rfl)
                  try simp only [Act.put, List.setIfInBounds_toArray, List.set_cons_zero, List.set_cons_succ]
                  refine wpAnyH_take (i := 26) (oi := ⟨some 114, Op.indexAddr 25 (.tmp 112) (.tmp 113), 0, "apart.go:482", #[⟨24, .data⟩, ⟨25, .data⟩, ⟨20, .guard⟩], some (20, true)⟩) (v := ?_) rfl (by kernel_rfl) (by kernel_rfl) (by kernel_rfl) (fun _ _ _ h => h) (Or.inl ⟨by kernel_rfl, ?_⟩) hHeld2 ?_
                  rotate_left
                  focus (intro w hSw; (try dsimp only at hSw); go_simp; try with_reducible rfl)
                  try simp only [Act.put, List.setIfInBounds_toArray, List.set_cons_zero, List.set_cons_succ]
                  refine wpAnyH_take (i := 27) (oi := ⟨some 115, Op.load 24 (.tmp 114), 24, "apart.go:482", #[⟨26, .data⟩, ⟨20, .guard⟩], some (20, true)⟩) (v := ?_) rfl (by kernel_rfl) (by kernel_rfl) (by kernel_rfl) (fun _ _ _ h => h) (Or.inl ⟨by kernel_rfl, ?_⟩) hHeld2 ?_
                  rotate_left
                  focus (intro w hSw; (try dsimp only at hSw); go_simp; try with_reducible rfl)
                  try simp only [Act.put, List.setIfInBounds_toArray, List.set_cons_zero, List.set_cons_succ]
                  refine wpAnyH_take (i := 28) (oi := ⟨some 116, Op.move (.tmp 9), 3, "apart.go:482", #[⟨20, .guard⟩], some (20, true)⟩) (v := ?_) rfl (by kernel_rfl) (by kernel_rfl) (by kernel_rfl) (fun _ _ _ h => h) (Or.inl ⟨by kernel_rfl, ?_⟩) hHeld2 ?_
                  rotate_left
                  focus (intro w hSw; (try dsimp only at hSw); go_simp; try with_reducible rfl)
                  try simp only [Act.put, List.setIfInBounds_toArray, List.set_cons_zero, List.set_cons_succ]
                  refine wpAnyH_take (i := 29) (oi := ⟨some 117, Op.move (.tmp 10), 3, "apart.go:482", #[⟨20, .guard⟩], some (20, true)⟩) (v := ?_) rfl (by kernel_rfl) (by kernel_rfl) (by kernel_rfl) (fun _ _ _ h => h) (Or.inl ⟨by kernel_rfl, ?_⟩) hHeld2 ?_
                  rotate_left
                  focus (intro w hSw; (try dsimp only at hSw); go_simp; try with_reducible rfl)
                  try simp only [Act.put, List.setIfInBounds_toArray, List.set_cons_zero, List.set_cons_succ]
                  refine wpAnyH_ready (rs := [30]) (by kernel_rfl) (by simp) ?_
                  refine AllReadyH.cons (o := ⟨some 118, Op.call ⟨.value (.func 74), #[.tmp 116, .tmp 117], #[3, 3]⟩, 24, "apart.go:482", #[⟨28, .data⟩, ⟨29, .data⟩, ⟨20, .chain⟩, ⟨20, .guard⟩], some (20, true)⟩) rfl (fun K hK => ?_) AllReadyH.nil
                  go_simp
                  go_at_call 74
                  refine (HMR.out _).mono ?_
                  rintro er w6 ⟨rfl, hb6⟩
                  obtain ⟨h1, h2, h3, h4, h5, h6, h7⟩ := id hHeld2
                  have hS6 := And.intro (fkeep_cell hb6 h1) (And.intro (fkeep_cell hb6 h2) (And.intro (fkeep_cell hb6 h3) (And.intro (fkeep_cell hb6 h4) (And.intro (fkeep_cell hb6 h5) (And.intro (fkeep_cell hb6 h6) (Lib.hid (L2.below h7.out hb6 HM.out)))))))
                  clear hb6 h1 h2 h3 h4 h5 h6 h7
                  try go_wp2_with fail
                  refine hK.out _ _ hS6 (fun hHeld22 => ?_)
                  clear hK K hS6
                  try simp only [Act.put, List.setIfInBounds_toArray, List.set_cons_zero, List.set_cons_succ]
                  refine wpAnyH_take (i := 31) (oi := ⟨some 119, Op.binOp BinOp.eql 24 (.tmp 115) (.tmp 118) 24, 4, "apart.go:482", #[⟨27, .data⟩, ⟨30, .data⟩, ⟨20, .guard⟩], some (20, true)⟩) (v := ?_) rfl (by kernel_rfl) (by kernel_rfl) (by kernel_rfl) (fun _ _ _ h => h) (Or.inl ⟨by kernel_rfl, ?_⟩) hHeld22 ?_
                  rotate_left
                  focus (intro w hSw; (try dsimp only at hSw); go_simp; try with_reducible rfl)
                  try simp only [Act.put, List.setIfInBounds_toArray, List.set_cons_zero, List.set_cons_succ]
                  refine wpAnyH_take (i := 32) (oi := ⟨some 120, Op.unOp UnOp.not 4 (.tmp 119), 4, "apart.go:482", #[⟨31, .data⟩, ⟨20, .guard⟩], some (20, true)⟩) (v := ?_) rfl (by kernel_rfl) (by kernel_rfl) (by kernel_rfl) (fun _ _ _ h => h) (Or.inl ⟨by kernel_rfl, ?_⟩) hHeld22 ?_
                  rotate_left
                  focus (intro w hSw; (try dsimp only at hSw); go_simp; try with_reducible rfl)
                  try simp only [Act.put, List.setIfInBounds_toArray, List.set_cons_zero, List.set_cons_succ]
                  refine wpAnyH_take (i := 33) (oi := ⟨some 121, Op.pick (.tmp 108) (.tmp 120) (.const (Value.bool false)), 4, "apart.go:482", #[⟨20, .data⟩, ⟨32, .data⟩, ⟨12, .guard⟩], some (12, false)⟩) (v := ?_) rfl (by kernel_rfl) (by kernel_rfl) (by kernel_rfl) (fun _ _ _ h => h) (Or.inl ⟨by kernel_rfl, ?_⟩) hHeld22 ?_
                  rotate_left
                  focus (intro w hSw; (try dsimp only at hSw); go_simp; try with_reducible rfl)
                  try simp only [Act.put, List.setIfInBounds_toArray, List.set_cons_zero, List.set_cons_succ]
                  refine wpAnyH_take (i := 34) (oi := ⟨some 122, Op.pick (.tmp 100) (.const (Value.bool true)) (.tmp 121), 4, "apart.go:482", #[⟨12, .data⟩, ⟨33, .data⟩], none⟩) (v := ?_) rfl (by kernel_rfl) (by kernel_rfl) (by kernel_rfl) (fun _ _ _ h => h) (Or.inl ⟨by kernel_rfl, ?_⟩) hHeld22 ?_
                  rotate_left
                  focus (intro w hSw; (try dsimp only at hSw); go_simp; try with_reducible rfl)
                  try simp only [Act.put, List.setIfInBounds_toArray, List.set_cons_zero, List.set_cons_succ]
                  refine wpAnyH_done (by kernel_rfl) ?_ _
                  go_wp2
                  go_roundw
                  case rel => exact ⟨i + 1, by omega, by go_num, hHeld22.2.2.2.2.2.2, hHeld22.1, hHeld22.2.1⟩
                  case measure => simp [intOf]; omega
                · have hiJ : (n : Int) ≤ i := by omega
                  have hlt : decide ((i : Int) < n) = false := by rw [decide_eq_false_iff_not]; omega
                  have hltN : decide (i < n) = false := by rw [decide_eq_false_iff_not]; omega
                  go_wp2
                  refine wp_region_held_drew (S := (fun W => W.cell? ⟨bq, oq + j, none⟩ = some (.slice ad n c) ∧ W.cell? ⟨G, j, none⟩ = some (.slice (some ⟨b2, 0, none⟩) (n + 64) c2) ∧ W.cell? ⟨b2, i * 2, none⟩ = some (.int .i64 x) ∧ W.cell? ⟨b2, i * 2 + 1, none⟩ = some (.int .i64 0) ∧ Hid (L2 2 mcR ds es k 64 G Z w W))) (by kernel_rfl) ⟨hcq, hcg, hx1, hx2, HL.out.below ((Below.refl _ _).drew) HM.out⟩ (fun hHeld => ?_)
                  refine wpAnyH_take (i := 0) (oi := ⟨some 88, Op.move (.tmp 5), 26, "apart.go:482", #[], none⟩) (v := ?_) rfl (by kernel_rfl) (by kernel_rfl) (by kernel_rfl) (fun _ _ _ h => h) (Or.inl ⟨by kernel_rfl, ?_⟩) hHeld ?_
                  rotate_left
                  focus (intro w hSw; (try dsimp only at hSw); go_simp; try with_reducible rfl)
                  try simp only [Act.put, List.setIfInBounds_toArray, List.set_cons_zero, List.set_cons_succ]
                  refine wpAnyH_take (i := 1) (oi := ⟨some 89, Op.move (.tmp 9), 3, "apart.go:482", #[], none⟩) (v := ?_) rfl (by kernel_rfl) (by kernel_rfl) (by kernel_rfl) (fun _ _ _ h => h) (Or.inl ⟨by kernel_rfl, ?_⟩) hHeld ?_
                  rotate_left
                  focus (intro w hSw; (try dsimp only at hSw); go_simp; try with_reducible rfl)
                  try simp only [Act.put, List.setIfInBounds_toArray, List.set_cons_zero, List.set_cons_succ]
                  refine wpAnyH_take (i := 2) (oi := ⟨some 90, Op.indexAddr 26 (.tmp 88) (.tmp 89), 0, "apart.go:482", #[⟨0, .data⟩, ⟨1, .data⟩], none⟩) (v := ?_) rfl (by kernel_rfl) (by kernel_rfl) (by kernel_rfl) (fun _ _ _ h => h) (Or.inl ⟨by kernel_rfl, ?_⟩) hHeld ?_
                  rotate_left
                  focus (intro w hSw; (try dsimp only at hSw); go_simp; try with_reducible rfl)
                  try simp only [Act.put, List.setIfInBounds_toArray, List.set_cons_zero, List.set_cons_succ]
                  refine wpAnyH_take (i := 3) (oi := ⟨some 91, Op.load 25 (.tmp 90), 25, "apart.go:482", #[⟨2, .data⟩], none⟩) (v := ?_) rfl (by kernel_rfl) (by kernel_rfl) (by kernel_rfl) (fun _ _ _ h => h) (Or.inl ⟨by kernel_rfl, ?_⟩) hHeld ?_
                  rotate_left
                  focus (intro w hSw; (try dsimp only at hSw); go_simp; try with_reducible rfl)
                  try simp only [Act.put, List.setIfInBounds_toArray, List.set_cons_zero, List.set_cons_succ]
                  refine wpAnyH_take (i := 4) (oi := ⟨some 92, Op.move (.tmp 10), 3, "apart.go:482", #[], none⟩) (v := ?_) rfl (by kernel_rfl) (by kernel_rfl) (by kernel_rfl) (fun _ _ _ h => h) (Or.inl ⟨by kernel_rfl, ?_⟩) hHeld ?_
                  rotate_left
                  focus (intro w hSw; (try dsimp only at hSw); go_simp; try with_reducible rfl)
                  try simp only [Act.put, List.setIfInBounds_toArray, List.set_cons_zero, List.set_cons_succ]
                  refine wpAnyH_take (i := 5) (oi := ⟨some 93, Op.indexAddr 25 (.tmp 91) (.tmp 92), 0, "apart.go:482", #[⟨3, .data⟩, ⟨4, .data⟩], none⟩) (v := ?_) rfl (by kernel_rfl) (by kernel_rfl) (by kernel_rfl) (fun _ _ _ h => h) (Or.inl ⟨by kernel_rfl, ?_⟩) hHeld ?_
                  rotate_left
                  focus (intro w hSw; (try dsimp only at hSw); go_simp; try with_reducible rfl)
                  try simp only [Act.put, List.setIfInBounds_toArray, List.set_cons_zero, List.set_cons_succ]
                  refine wpAnyH_take (i := 6) (oi := ⟨some 94, Op.load 24 (.tmp 93), 24, "apart.go:482", #[⟨5, .data⟩], none⟩) (v := ?_) rfl (by kernel_rfl) (by kernel_rfl) (by kernel_rfl) (fun _ _ _ h => h) (Or.inl ⟨by kernel_rfl, ?_⟩) hHeld ?_
                  rotate_left
                  focus (intro w hSw; (try dsimp only at hSw); go_simp; try with_reducible rfl)
                  try simp only [Act.put, List.setIfInBounds_toArray, List.set_cons_zero, List.set_cons_succ]
                  refine wpAnyH_take (i := 7) (oi := ⟨some 95, Op.move (.tmp 9), 3, "apart.go:482", #[], none⟩) (v := ?_) rfl (by kernel_rfl) (by kernel_rfl) (by kernel_rfl) (fun _ _ _ h => h) (Or.inl ⟨by kernel_rfl, ?_⟩) hHeld ?_
                  rotate_left
                  focus (intro w hSw; (try dsimp only at hSw); go_simp; try with_reducible rfl)
                  try simp only [Act.put, List.setIfInBounds_toArray, List.set_cons_zero, List.set_cons_succ]
                  refine wpAnyH_take (i := 8) (oi := ⟨some 96, Op.move (.tmp 10), 3, "apart.go:482", #[], none⟩) (v := ?_) rfl (by kernel_rfl) (by kernel_rfl) (by kernel_rfl) (fun _ _ _ h => h) (Or.inl ⟨by kernel_rfl, ?_⟩) hHeld ?_
                  rotate_left
                  focus (intro w hSw; (try dsimp only at hSw); go_simp; try with_reducible rfl)
                  try simp only [Act.put, List.setIfInBounds_toArray, List.set_cons_zero, List.set_cons_succ]
                  refine wpAnyH_ready (rs := [9]) (by kernel_rfl) (by simp) ?_
                  refine AllReadyH.cons (o := ⟨some 97, Op.call ⟨.value (.func 74), #[.tmp 95, .tmp 96], #[3, 3]⟩, 24, "apart.go:482", #[⟨7, .data⟩, ⟨8, .data⟩], none⟩) rfl (fun K hK => ?_) AllReadyH.nil
                  go_simp
                  go_at_call 74
                  refine (HMR.out _).mono ?_
                  rintro er w6 ⟨rfl, hb6⟩
                  obtain ⟨h1, h2, h3, h4, h5⟩ := id hHeld
                  have hS6 := And.intro (fkeep_cell hb6 h1) (And.intro (fkeep_cell hb6 h2) (And.intro (fkeep_cell hb6 h3) (And.intro (fkeep_cell hb6 h4) (Lib.hid (L2.below h5.out hb6 HM.out)))))
                  clear hb6 h1 h2 h3 h4 h5
                  try go_wp2_with fail
                  refine hK.out _ _ hS6 (fun hHeld2 => ?_)
                  clear hK K hS6
                  try simp only [Act.put, List.setIfInBounds_toArray, List.set_cons_zero, List.set_cons_succ]
                  refine wpAnyH_take (i := 10) (oi := ⟨some 98, Op.binOp BinOp.eql 24 (.tmp 94) (.tmp 97) 24, 4, "apart.go:482", #[⟨6, .data⟩, ⟨9, .data⟩], none⟩) (v := ?_) rfl (by kernel_rfl) (by kernel_rfl) (by kernel_rfl) (fun _ _ _ h => h) (Or.inl ⟨by kernel_rfl, ?_⟩) hHeld2 ?_
                  rotate_left
                  focus (intro w hSw; (try dsimp only at hSw); go_simp; try with_reducible rfl)
                  try simp only [Act.put, List.setIfInBounds_toArray, List.set_cons_zero, List.set_cons_succ]
                  refine wpAnyH_take (i := 11) (oi := ⟨some 99, Op.unOp UnOp.not 4 (.tmp 98), 4, "apart.go:482", #[⟨10, .data⟩], none⟩) (v := ?_) rfl (by kernel_rfl) (by kernel_rfl) (by kernel_rfl) (fun _ _ _ h => h) (Or.inl ⟨by kernel_rfl, ?_⟩) hHeld2 ?_
                  rotate_left
                  focus (intro w hSw; (try dsimp only at hSw); go_simp; try with_reducible rfl)
                  try simp only [Act.put, List.setIfInBounds_toArray, List.set_cons_zero, List.set_cons_succ]
                  refine wpAnyH_take (i := 12) (oi := ⟨some 100, Op.move (.tmp 99), 4, "apart.go:482", #[⟨11, .data⟩, ⟨9, .chain⟩], none⟩) (v := ?_) rfl (by kernel_rfl) (by kernel_rfl) (by kernel_rfl) (fun _ _ _ h => h) (Or.inl ⟨by kernel_rfl, ?_⟩) hHeld2 ?_
                  rotate_left
                  focus (intro w hSw; (try dsimp only at hSw); go_simp; try with_reducible rfl)
                  try simp only [Act.put, List.setIfInBounds_toArray, List.set_cons_zero, List.set_cons_succ]
                  refine wpAnyH_take (i := 13) (oi := ⟨some 101, Op.move (.tmp 10), 3, "apart.go:482", #[⟨12, .guard⟩], some (12, false)⟩) (v := ?_) rfl (by kernel_rfl) (by kernel_rfl) (by kernel_rfl) (fun _ _ _ h => h) (Or.inl ⟨by kernel_rfl, ?_⟩) hHeld2 ?_
                  rotate_left
                  focus (intro w hSw; (try dsimp only at hSw); go_simp; try with_reducible rfl)
                  try simp only [Act.put, List.setIfInBounds_toArray, List.set_cons_zero, List.set_cons_succ]
                  refine wpAnyH_take (i := 14) (oi := ⟨some 102, Op.move (.tmp 0), 26, "apart.go:482", #[⟨12, .guard⟩], some (12, false)⟩) (v := ?_) rfl (by kernel_rfl) (by kernel_rfl) (by kernel_rfl) (fun _ _ _ h => h) (Or.inl ⟨by kernel_rfl, ?_⟩) hHeld2 ?_
                  rotate_left
                  focus (intro w hSw; (try dsimp only at hSw); go_simp; try with_reducible rfl)
                  try simp only [Act.put, List.setIfInBounds_toArray, List.set_cons_zero, List.set_cons_succ]
                  refine wpAnyH_take (i := 15) (oi := ⟨some 103, Op.move (.tmp 9), 3, "apart.go:482", #[⟨12, .guard⟩], some (12, false)⟩) (v := ?_) rfl (by kernel_rfl) (by kernel_rfl) (by kernel_rfl) (fun _ _ _ h => h) (Or.inl ⟨by kernel_rfl, ?_⟩) hHeld2 ?_
                  rotate_left
                  focus (intro w hSw; (try dsimp only at hSw); go_simp; try with_reducible rfl)
                  try simp only [Act.put, List.setIfInBounds_toArray, List.set_cons_zero, List.set_cons_succ]
                  refine wpAnyH_take (i := 16) (oi := ⟨some 104, Op.indexAddr 26 (.tmp 102) (.tmp 103), 0, "apart.go:482", #[⟨14, .data⟩, ⟨15, .data⟩, ⟨12, .guard⟩], some (12, false)⟩) (v := ?_) rfl (by kernel_rfl) (by kernel_rfl) (by kernel_rfl) (fun _ _ _ h => h) (Or.inl ⟨by kernel_rfl, ?_⟩) hHeld2 ?_
                  rotate_left
                  focus (intro w hSw; (try dsimp only at hSw); go_simp; try with_reducible rfl)
                  try simp only [Act.put, List.setIfInBounds_toArray, List.set_cons_zero, List.set_cons_succ]
                  refine wpAnyH_take (i := 17) (oi := ⟨some 105, Op.load 25 (.tmp 104), 25, "apart.go:482", #[⟨16, .data⟩, ⟨12, .guard⟩], some (12, false)⟩) (v := ?_) rfl (by kernel_rfl) (by kernel_rfl) (by kernel_rfl) (fun _ _ _ h => h) (Or.inl ⟨by kernel_rfl, ?_⟩) hHeld2 ?_
                  rotate_left
                  focus (intro w hSw; (try dsimp only at hSw); go_simp; try with_reducible rfl)
                  try simp only [Act.put, List.setIfInBounds_toArray, List.set_cons_zero, List.set_cons_succ]
                  refine wpAnyH_take (i := 18) (oi := ⟨some 106, Op.call { callee := Callee.builtin Builtin.len, args := #[.tmp 105], argTypes := #[25] }, 3, "apart.go:482", #[⟨17, .data⟩, ⟨12, .guard⟩], some (12, false)⟩) (v := ?_) rfl (by kernel_rfl) (by kernel_rfl) (by kernel_rfl) (fun _ _ _ h => h) (Or.inl ⟨by kernel_rfl, ?_⟩) hHeld2 ?_
                  rotate_left
                  focus (intro w hSw; (try dsimp only at hSw); go_simp; try with_reducible rfl)
                  try simp only [Act.put, List.setIfInBounds_toArray, List.set_cons_zero, List.set_cons_succ]
                  refine wpAnyH_take (i := 19) (oi := ⟨some 107, Op.binOp BinOp.lss 3 (.tmp 101) (.tmp 106) 3, 4, "apart.go:482", #[⟨13, .data⟩, ⟨18, .data⟩, ⟨12, .guard⟩], some (12, false)⟩) (v := ?_) rfl (by kernel_rfl) (by kernel_rfl) (by kernel_rfl) (fun _ _ _ h => h) (Or.inl ⟨by kernel_rfl, ?_⟩) hHeld2 ?_
                  rotate_left
                  focus (intro w hSw; (try dsimp only at hSw); go_simp; try with_reducible rfl)
                  try simp only [Act.put, List.setIfInBounds_toArray, List.set_cons_zero, List.set_cons_succ]
                  refine wpAnyH_take (i := 20) (oi := ⟨some 108, Op.move (.tmp 107), 4, "apart.go:482", #[⟨19, .data⟩, ⟨12, .chain⟩, ⟨12, .guard⟩], some (12, false)⟩) (v := ?_) rfl (by kernel_rfl) (by kernel_rfl) (by kernel_rfl) (fun _ _ _ h => h) (Or.inl ⟨by kernel_rfl, ?_⟩) hHeld2 ?_
                  rotate_left
                  focus (intro w hSw; (try dsimp only at hSw); go_simp; try with_reducible rfl)
                  try simp only [Act.put, List.setIfInBounds_toArray, List.set_cons_zero, List.set_cons_succ]
                  refine wpAnyH_take (i := 21) (oi := ⟨some 109, Op.move (.tmp 0), 26, "apart.go:482", #[⟨20, .guard⟩], some (20, true)⟩) (v := undef) rfl (by kernel_rfl) (by kernel_rfl) (by kernel_rfl) (fun _ _ _ h => h) (Or.inr ⟨by kernel_rfl, by kernel_rfl⟩) hHeld2 ?_
                  try simp only [Act.put, List.setIfInBounds_toArray, List.set_cons_zero, List.set_cons_succ]
                  refine wpAnyH_take (i := 22) (oi := ⟨some 110, Op.move (.tmp 9), 3, "apart.go:482", #[⟨20, .guard⟩], some (20, true)⟩) (v := undef) rfl (by kernel_rfl) (by kernel_rfl) (by kernel_rfl) (fun _ _ _ h => h) (Or.inr ⟨by kernel_rfl, by kernel_rfl⟩) hHeld2 ?_
                  try simp only [Act.put, List.setIfInBounds_toArray, List.set_cons_zero, List.set_cons_succ]
                  refine wpAnyH_take (i := 23) (oi := ⟨some 111, Op.indexAddr 26 (.tmp 109) (.tmp 110), 0, "apart.go:482", #[⟨21, .data⟩, ⟨22, .data⟩, ⟨20, .guard⟩], some (20, true)⟩) (v := undef) rfl (by kernel_rfl) (by kernel_rfl) (by kernel_rfl) (fun _ _ _ h => h) (Or.inr ⟨by kernel_rfl, by kernel_rfl⟩) hHeld2 ?_
                  try simp only [Act.put, List.setIfInBounds_toArray, List.set_cons_zero, List.set_cons_succ]
                  refine wpAnyH_take (i := 24) (oi := ⟨some 112, Op.load 25 (.tmp 111), 25, "apart.go:482", #[⟨23, .data⟩, ⟨20, .guard⟩], some (20, true)⟩) (v := undef) rfl (by kernel_rfl) (by kernel_rfl) (by kernel_rfl) (fun _ _ _ h => h) (Or.inr ⟨by kernel_rfl, by kernel_rfl⟩) hHeld2 ?_
                  try simp only [Act.put, List.setIfInBounds_toArray, List.set_cons_zero, List.set_cons_succ]
                  refine wpAnyH_take (i := 25) (oi := ⟨some 113, Op.move (.tmp 10), 3, "apart.go:482", #[⟨20, .guard⟩], some (20, true)⟩) (v := undef) rfl (by kernel_rfl) (by kernel_rfl) (by kernel_rfl) (fun _ _ _ h => h) (Or.inr ⟨by kernel_rfl, by kernel_rfl⟩) hHeld2 ?_
                  try simp only [Act.put, List.setIfInBounds_toArray, List.set_cons_zero, List.set_cons_succ]
                  refine wpAnyH_take (i := 26) (oi := ⟨some 114, Op.indexAddr 25 (.tmp 112) (.tmp 113), 0, "apart.go:482", #[⟨24, .data⟩, ⟨25, .data⟩, ⟨20, .guard⟩], some (20, true)⟩) (v := undef) rfl (by kernel_rfl) (by kernel_rfl) (by kernel_rfl) (fun _ _ _ h => h) (Or.inr ⟨by kernel_rfl, by kernel_rfl⟩) hHeld2 ?_
                  try simp only [Act.put, List.setIfInBounds_toArray, List.set_cons_zero, List.set_cons_succ]
                  refine wpAnyH_take (i := 27) (oi := ⟨some 115, Op.load 24 (.tmp 114), 24, "apart.go:482", #[⟨26, .data⟩, ⟨20, .guard⟩], some (20, true)⟩) (v := undef) rfl (by kernel_rfl) (by kernel_rfl) (by kernel_rfl) (fun _ _ _ h => h) (Or.inr ⟨by kernel_rfl, by kernel_rfl⟩) hHeld2 ?_
                  try simp only [Act.put, List.setIfInBounds_toArray, List.set_cons_zero, List.set_cons_succ]
                  refine wpAnyH_take (i := 28) (oi := ⟨some 116, Op.move (.tmp 9), 3, "apart.go:482", #[⟨20, .guard⟩], some (20, true)⟩) (v := undef) rfl (by kernel_rfl) (by kernel_rfl) (by kernel_rfl) (fun _ _ _ h => h) (Or.inr ⟨by kernel_rfl, by kernel_rfl⟩) hHeld2 ?_
                  try simp only [Act.put, List.setIfInBounds_toArray, List.set_cons_zero, List.set_cons_succ]
                  refine wpAnyH_take (i := 29) (oi := ⟨some 117, Op.move (.tmp 10), 3, "apart.go:482", #[⟨20, .guard⟩], some (20, true)⟩) (v := undef) rfl (by kernel_rfl) (by kernel_rfl) (by kernel_rfl) (fun _ _ _ h => h) (Or.inr ⟨by kernel_rfl, by kernel_rfl⟩) hHeld2 ?_
                  try simp only [Act.put, List.setIfInBounds_toArray, List.set_cons_zero, List.set_cons_succ]
                  refine wpAnyH_take (i := 30) (oi := ⟨some 118, Op.call ⟨.value (.func 74), #[.tmp 116, .tmp 117], #[3, 3]⟩, 24, "apart.go:482", #[⟨28, .data⟩, ⟨29, .data⟩, ⟨20, .chain⟩, ⟨20, .guard⟩], some (20, true)⟩) (v := undef) rfl (by kernel_rfl) (by kernel_rfl) (by kernel_rfl) (fun _ _ _ h => h) (Or.inr ⟨by kernel_rfl, by kernel_rfl⟩) hHeld2 ?_
                  try simp only [Act.put, List.setIfInBounds_toArray, List.set_cons_zero, List.set_cons_succ]
                  refine wpAnyH_take (i := 31) (oi := ⟨some 119, Op.binOp BinOp.eql 24 (.tmp 115) (.tmp 118) 24, 4, "apart.go:482", #[⟨27, .data⟩, ⟨30, .data⟩, ⟨20, .guard⟩], some (20, true)⟩) (v := undef) rfl (by kernel_rfl) (by kernel_rfl) (by kernel_rfl) (fun _ _ _ h => h) (Or.inr ⟨by kernel_rfl, by kernel_rfl⟩) hHeld2 ?_
                  try simp only [Act.put, List.setIfInBounds_toArray, List.set_cons_zero, List.set_cons_succ]
                  refine wpAnyH_take (i := 32) (oi := ⟨some 120, Op.unOp UnOp.not 4 (.tmp 119), 4, "apart.go:482", #[⟨31, .data⟩, ⟨20, .guard⟩], some (20, true)⟩) (v := undef) rfl (by kernel_rfl) (by kernel_rfl) (by kernel_rfl) (fun _ _ _ h => h) (Or.inr ⟨by kernel_rfl, by kernel_rfl⟩) hHeld2 ?_
                  try simp only [Act.put, List.setIfInBounds_toArray, List.set_cons_zero, List.set_cons_succ]
                  refine wpAnyH_take (i := 33) (oi := ⟨some 121, Op.pick (.tmp 108) (.tmp 120) (.const (Value.bool false)), 4, "apart.go:482", #[⟨20, .data⟩, ⟨32, .data⟩, ⟨12, .guard⟩], some (12, false)⟩) (v := ?_) rfl (by kernel_rfl) (by kernel_rfl) (by kernel_rfl) (fun _ _ _ h => h) (Or.inl ⟨by kernel_rfl, ?_⟩) hHeld2 ?_
                  rotate_left
                  focus (intro w hSw; (try dsimp only at hSw); go_simp; try with_reducible rfl)
                  try simp only [Act.put, List.setIfInBounds_toArray, List.set_cons_zero, List.set_cons_succ]
                  refine wpAnyH_take (i := 34) (oi := ⟨some 122, Op.pick (.tmp 100) (.const (Value.bool true)) (.tmp 121), 4, "apart.go:482", #[⟨12, .data⟩, ⟨33, .data⟩], none⟩) (v := ?_) rfl (by kernel_rfl) (by kernel_rfl) (by kernel_rfl) (fun _ _ _ h => h) (Or.inl ⟨by kernel_rfl, ?_⟩) hHeld2 ?_
                  rotate_left
                  focus (intro w hSw; (try dsimp only at hSw); go_simp; try with_reducible rfl)
                  try simp only [Act.put, List.setIfInBounds_toArray, List.set_cons_zero, List.set_cons_succ]
                  refine wpAnyH_done (by kernel_rfl) ?_ _
                  go_wp2
                  go_roundw
                  case rel => exact ⟨i + 1, by omega, by go_num, hHeld2.2.2.2.2, hHeld2.1, hHeld2.2.1⟩
                  case measure => simp [intOf]; omega
              · have hiI : (n : Int) + 64 ≤ i := by omega
                go_wp2
                go_roundw
                case rel => exact ⟨j + 1, by have := HJ.out; omega, by go_num, HL.out⟩
                case measure => have := HJ.out; simp [intOf]; omega
          · have hjI2 : (k : Int) ≤ j := by omega
            obtain rfl : k = j := by omega
            have HL0 := Lib.hid (HL.out.anew (y := 0))
            clear HL HE hj
            go_wp2
            go_loopw [11] (fun kv wr => ∃ (j : Nat) (es : List D), j ≤ k ∧ kv = .int .i64 (j : Nat) ∧ Hid (es.length = j) ∧ Hid (L2 2 mcR ds es k 0 G Z w wr)) (fun kv _ => k - (intOf kv).toNat)
            case atStart => exact ⟨0, [], Nat.zero_le _, rfl, rfl, HL0.out⟩
            case round =>
            clear HL0
            obtain ⟨j, es, hj, rfl, HE, HL⟩ := hrel
            rename World => wr
            by_cases hjk : j < k
            · have hjI : (j : Int) < k := by omega
              have HJ := Lib.hid hjk
              go_wp2_with (at_make; refine wpList_make_full _ rfl _ _ 25 rfl wr.heap.size 24 i0 (.agg #[.int .i64 0, .int .i64 0]) 2 Tryz.underlying25 hinf hz0 hz1 .i64 .i64 _ _ 64 rfl rfl rfl rfl (by rw [hz2]; omega) (by simp only [maxLen]; omega) (Nat.le_refl _) ?_; intro w2 ho2 hg2)
              have hb2 : Below wr.heap.size wr w2 := ⟨hg2.os, hg2.tape, hg2.output, hg2.size, fun k hk => hg2.block k hk (by simp)⟩
              have HL2 := Lib.hid (HL.out.below hb2 HM.out)
              have hro := room_of_full ho2
              have HRM := Lib.hid hro
              have HFI : Hid (Fill w2 ⟨some wr.heap.size, 64, 64⟩ (mrow mcR (j + k) 0)) := fun b hb t u hu => by simp [mrow] at hu
              have HMB : Hid (¬ InD ds wr.heap.size ∧ ¬ InD es wr.heap.size ∧ wr.heap.size ≠ G ∧ w.heap.size ≤ wr.heap.size) := by
                refine ⟨fun s => ?_, fun s => ?_, ?_, ?_⟩
                · have := HDW.out _ s; have := HL.out.but.size; omega
                · obtain ⟨t, ht, et⟩ := s; have := (HL.out.roomE t ht).lt _ et; omega
                · have := HL.out.gz; have := HL.out.zs; omega
                · exact HL.out.but.size
              clear HL hro ho2 hg2 hb2
              generalize wr.heap.size = M at *
              clear wr hjk
              go_loopw [13] (fun iv wq => ∃ (i : Nat), i ≤ 64 ∧ iv = .int .i64 (i : Nat) ∧ Hid (L2 2 mcR ds es k 0 G Z w wq) ∧ Hid (Room wq 2 ⟨some M, 64, 64⟩) ∧ Hid (Fill wq ⟨some M, 64, 64⟩ (mrow mcR (j + k) i))) (fun iv _ => 64 - (intOf iv).toNat)
              case atStart => exact ⟨0, by omega, rfl, HL2.out, HRM.out, HFI.out⟩
              case round =>
              clear HL2 HRM HFI
              obtain ⟨i, hi, rfl, HL, HRM, HFI⟩ := hrel
              rename World => wq
              by_cases hi64 : i < 64
              · have hiI : (i : Int) < 64 := by omega
                obtain ⟨x, hx⟩ : ∃ x, x = mk (j + k) i := ⟨_, rfl⟩
                have HMR : Hid (∀ (W : World) (z : Int), z = (j : Int) + k → Calls Tryz.prog 74 #[.int .i64 z, .int .i64 (i : Nat)] W fun e w' => e = .returned (.agg #[.int .i64 x, .int .i64 0]) ∧ Below W.heap.size W w') := by
                  rintro W z rfl
                  have := markRange2_any (j + k) i W (by have := HJ.out; omega) (by omega)
                  rw [← hx] at this
                  rw [← Int.natCast_add]; exact this
                have HX := Lib.hid hx
                have HI := Lib.hid hi64
                clear hx hi64 hi
                go_wp2_with (go_at_call 74; refine (HMR.out _ _ (by first | rfl | omega)).mono ?_; rintro er w6 ⟨rfl, hb6⟩; have hr6 := HRM.out.below hb6; have HR6 := Lib.hid hr6; have HF6 := Lib.hid (HFI.out.below HRM.out hb6); have HL6 := Lib.hid (HL.out.below hb6 HM.out); obtain ⟨s0, f0⟩ := hr6.cell M rfl (i * 2) (by have := HI.out; simp only; omega); obtain ⟨s1, f1⟩ := hr6.cell M rfl (i * 2 + 1) (by have := HI.out; simp only; omega); obtain ⟨u0, hu0⟩ := Option.isSome_iff_exists.1 s0; obtain ⟨u1, hu1⟩ := Option.isSome_iff_exists.1 s1; clear hr6 s0 s1 hb6)
                have hw : (w6.setCell ⟨M, i * 2, none⟩ (.int .i64 x)).setCell ⟨M, i * 2 + 1, none⟩ (.int .i64 0) = w6.setCells M (i * 2) (mcR (j + k) i) := by rw [HX.out]; rfl
                have hn1 : L2 2 mcR ds es k 0 G Z w (w6.setCells M (i * 2) (mcR (j + k) i)) := HL6.out.but' (But.ofGrown (grown_setCells w6 M (i * 2) (mcR (j + k) i))) (fun b s => by
                  simp only [Option.some.injEq] at s
                  subst s
                  exact HMB.out) HM.out
                have hn2 := room_set HR6.out M (i * 2) (mcR (j + k) i)
                have hn3 := fill_set mcR_length HR6.out rfl (by have := HI.out; simp only; omega) HF6.out
                rw [← hw] at hn1 hn2 hn3
                have HN1 := Lib.hid hn1
                have HN2 := Lib.hid hn2
                have HN3 := Lib.hid hn3
                clear hn1 hn2 hn3 hw
                go_wp2
                go_roundw
                case rel => exact ⟨i + 1, by have := HI.out; omega, by go_num, HN1.out, HN2.out, HN3.out⟩
                case measure => have := HI.out; simp [intOf]; omega
              · have hiI : (64 : Int) ≤ i := by omega
                obtain rfl : i = 64 := by omega
                obtain ⟨bq, oq, rfl, hcq, hnb, _⟩ := slD_at (slD_but HQ.out HL.out.but) (show j < ds.length by have := HM.out; have := HJ.out; omega)
                obtain ⟨⟨p, n, c⟩, hd⟩ : ∃ d, d = dg ds j := ⟨_, rfl⟩
                have hnn := HN.out j HJ.out
                rw [← hd] at hcq hnn
                simp only at hnn
                have hv : D.val ⟨p, n, c⟩ = .slice (D.ad ⟨p, n, c⟩) n c := rfl
                rw [hv] at hcq
                obtain ⟨ad, had⟩ : ∃ ad, ad = D.ad ⟨p, n, c⟩ := ⟨_, rfl⟩
                rw [← had] at hcq
                have HD := Lib.hid hd.symm
                have HAD := Lib.hid had
                have HNN := Lib.hid hnn
                have HRD : Hid (Room wq 2 ⟨p, n, c⟩) := by have := HL.out.room j HJ.out; rw [HD.out] at this; exact this
                have HFD : Hid (Fill wq ⟨p, n, c⟩ (mrow mcR j n)) := by have := HL.out.fill j HJ.out; rw [HD.out] at this; exact this
                have HAT : Hid (At2 ds es j G Z wq ⟨p, n, c⟩) := by have := HL.out.at0 (by rw [HE.out]; exact HJ.out); rw [HE.out, HD.out] at this; exact this
                have HNEW : Hid (∀ t u, (mrow mcR (j + k) 64)[t]? = some u → wq.cell? ((⟨M, 0, none⟩ : Addr).add t) = some u) := fun t u hu => by
                  rw [Addr.add_lit, Nat.zero_add]; exact HFI.out M rfl t u hu
                have HONE : Hid (∀ u ∈ mrow mcR (j + k) 64, u.oneCell' = true) := by
                  intro u hu
                  unfold mrow at hu
                  rw [List.mem_flatMap] at hu
                  obtain ⟨t, _, ht⟩ := hu
                  simp only [mcR, List.mem_cons, List.not_mem_nil, or_false] at ht
                  rcases ht with rfl | rfl <;> rfl
                clear hd hnb hnn hv had HFI HRM hi
                go_wp2_with (at_builtin; refine wpList_append_far rfl _ _ 25 rfl 24 i0 (.agg #[.int .i64 0, .int .i64 0]) 2 16 Tryz.underlying25 hinf hz0 hz1 hz2 rfl (by decide) ⟨p, n, c⟩ (by show Value.slice ad n c = _; rw [HAD.out]; rfl) HRD.out _ (mrow_length mcR_length j n) HFD.out ⟨M, 0, none⟩ 64 64 (mrow mcR (j + k) 64) rfl (mrow_length mcR_length _ 64) HNEW.out HONE.out (by decide) ?c2 ?c3 ?_)
                case c2 => have := HNN.out; simp only [maxLen]; omega
                case c3 => have := HNN.out; omega
                intro e' w7 hgr
                have hstep := HL.out.grewAt HM.out HF.out HE.out HJ.out HAT.out (n := n) (by rw [HD.out]) (Nat.le_refl _) mcR_length hgr
                obtain ⟨f1, f2⟩ := hstep.1.free j HJ.out
                obtain ⟨u0, hu0⟩ := Option.isSome_iff_exists.1 f1
                have hput := hstep.1.putAt HM.out HE.out HJ.out hstep.2.1 (n := n) (by rw [HD.out]) hstep.2.2.1 hstep.2.2.2.1.front hstep.2.2.2.2
                obtain ⟨p', n', c'⟩ := e'
                obtain ⟨ad', had'⟩ : ∃ a, a = D.ad ⟨p', n', c'⟩ := ⟨_, rfl⟩
                rw [show D.val ⟨p', n', c'⟩ = .slice ad' n' c' by rw [had']; rfl] at hput ⊢
                have HPUT := Lib.hid hput
                clear had' hput f1 hcq hgr hstep
                go_wp2
                go_roundw
                case rel => exact ⟨j + 1, _, by have := HJ.out; omega, by go_num, HPUT.out.2, HPUT.out.1⟩
                case measure => have := HJ.out; simp [intOf]; omega
            · have hjI2 : (k : Int) ≤ j := by omega
              obtain rfl : k = j := by omega
              clear hj
              go_wp2
              go_loopw [14] (fun kv wr => ∃ (j : Nat), j ≤ k ∧ kv = .int .i64 (j : Nat) ∧ Hid (L2 2 mcR ds es k 0 G Z w wr)) (fun kv _ => k - (intOf kv).toNat)
              case atStart => exact ⟨0, Nat.zero_le _, rfl, HL.out⟩
              case round =>
              clear HL
              obtain ⟨j, hj, rfl, HL⟩ := hrel
              rename World => wr
              by_cases hjk : j < k
              · have hjI3 : (j : Int) < k := by omega
                obtain ⟨bq, oq, rfl, hcq, hnb, _⟩ := slD_at (slD_but HQ.out HL.out.but) (show j < ds.length by have := HM.out; omega)
                obtain ⟨⟨p, n, c⟩, hd⟩ : ∃ d, d = dg ds j := ⟨_, rfl⟩
                have hnn := HN.out j hjk
                rw [← hd] at hcq hnn
                simp only at hnn
                have hv : D.val ⟨p, n, c⟩ = .slice (D.ad ⟨p, n, c⟩) n c := rfl
                rw [hv] at hcq
                obtain ⟨ad, had⟩ : ∃ ad, ad = D.ad ⟨p, n, c⟩ := ⟨_, rfl⟩
                rw [← had] at hcq
                have HD := Lib.hid hd.symm
                have HAD := Lib.hid had
                have hnI : (n : Int) ≤ 100000000 := by omega
                have HJ := Lib.hid hjk
                clear hd hnb hnn hv had hjk
                go_wp2
                go_loopw [15] (fun iv wq => ∃ (i : Nat), i ≤ n ∧ iv = .int .i64 (i : Nat) ∧ Hid (L2 2 mcR ds es k 0 G Z w wq) ∧ wq.cell? ⟨bq, oq + j, none⟩ = some (.slice ad n c)) (fun iv _ => n - (intOf iv).toNat)
                case atStart => exact ⟨0, Nat.zero_le _, rfl, HL.out, hcq⟩
                case round =>
                clear HL hcq
                obtain ⟨i, hi, rfl, HL, hcq⟩ := hrel
                rename World => wq
                by_cases hin : i < n
                · have hiI : (i : Int) < n := by omega
                  have hcg := HL.out.cell j (by rw [HE.out]; exact HJ.out)
                  have hre := HL.out.roomE j (by rw [HE.out]; exact HJ.out)
                  have hfe := HL.out.fillE j (by rw [HE.out]; exact HJ.out)
                  have hn2 := HL.out.nE j (by rw [HE.out]; exact HJ.out)
                  have hrd := HL.out.room j HJ.out
                  have hfd := HL.out.fill j HJ.out
                  obtain ⟨⟨p2, n2, c2⟩, he⟩ : ∃ d, d = dg es j := ⟨_, rfl⟩
                  rw [← he] at hcg hre hfe hn2
                  rw [HD.out] at hfe hn2 hrd hfd
                  simp only at hn2
                  subst hn2
                  obtain ⟨b2, hb2⟩ := room_some hre (by simp only; omega)
                  obtain ⟨b, hb⟩ := room_some hrd (by simp only; omega)
                  simp only at hb hb2
                  subst hb2
                  subst hb
                  rw [val_some] at hcg
                  have had := HAD.out
                  rw [show D.ad ⟨some b, n, c⟩ = some ⟨b, 0, none⟩ from rfl] at had
                  subst had
                  obtain ⟨x, hx⟩ : ∃ x, x = mk j i := ⟨_, rfl⟩
                  have hx1 := mrow_cell mcR_length hfd rfl hin (show 0 < 2 by omega) (show (mcR j i)[0]? = some (.int .i64 x) by rw [hx]; rfl)
                  have hx2 := mrow_cell mcR_length hfd rfl hin (show 1 < 2 by omega) (show (mcR j i)[1]? = some (.int .i64 0) from rfl)
                  have hx3 := mrow_cell mcR_length hfe rfl (show i < n + 0 from hin) (show 0 < 2 by omega) (show (mcR j i)[0]? = some (.int .i64 x) by rw [hx]; rfl)
                  have hx4 := mrow_cell mcR_length hfe rfl (show i < n + 0 from hin) (show 1 < 2 by omega) (show (mcR j i)[1]? = some (.int .i64 0) from rfl)
                  rw [Nat.add_zero] at hx1 hx3
                  have HMR := Lib.hid (fun W => markRange2_any j i W (by have := HJ.out; omega) (by omega))
                  rw [← hx] at HMR
                  have hgd := frange_guard
                  have heq := fun W => fequal_range 9998 x 0 x 0 W
                  rw [show (x == x && (0 : Int) == 0) = true by simp] at heq
                  have hcJ : (n : Int) + 64 ≤ c2 := by have := hre.le; simp only at this; omega
                  have hnJ : (i : Int) < (n : Int) + 64 := by omega
                  clear hfe hfd hre hrd hx he
                  go_wp2
                  refine wp_region_held_drew (S := (fun W => W.cell? ⟨bq, oq + j, none⟩ = some (.slice (some ⟨b, 0, none⟩) n c) ∧ W.cell? ⟨G, j, none⟩ = some (.slice (some ⟨b2, 0, none⟩) (n + 64) c2) ∧ W.cell? ⟨b, i * 2, none⟩ = some (.int .i64 x) ∧ W.cell? ⟨b, i * 2 + 1, none⟩ = some (.int .i64 0) ∧ W.cell? ⟨b2, i * 2, none⟩ = some (.int .i64 x) ∧ W.cell? ⟨b2, i * 2 + 1, none⟩ = some (.int .i64 0) ∧ Hid (L2 2 mcR ds es k 0 G Z w W))) (by kernel_rfl) ⟨hcq, hcg, hx1, hx2, hx3, hx4, HL.out.below ((Below.refl _ _).drew) HM.out⟩ (fun hHeld => ?_)
                  refine wpAnyH_take (i := 0) (oi := ⟨some 167, Op.move (.tmp 0), 26, "apart.go:496", #[], none⟩) (v := ?_) rfl (by kernel_rfl) (by kernel_rfl) (by kernel_rfl) (fun _ _ _ h => h) (Or.inl ⟨by kernel_rfl, ?_⟩) hHeld ?_
                  rotate_left
                  focus (intro w hSw; (try dsimp only at hSw); go_simp; try with_reducible rfl)
                  try simp only [Act.put, List.setIfInBounds_toArray, List.set_cons_zero, List.set_cons_succ]
                  refine wpAnyH_take (i := 1) (oi := ⟨some 168, Op.move (.tmp 14), 3, "apart.go:496", #[], none⟩) (v := ?_) rfl (by kernel_rfl) (by kernel_rfl) (by kernel_rfl) (fun _ _ _ h => h) (Or.inl ⟨by kernel_rfl, ?_⟩) hHeld ?_
                  rotate_left
                  focus (intro w hSw; (try dsimp only at hSw); go_simp; try with_reducible rfl)
                  try simp only [Act.put, List.setIfInBounds_toArray, List.set_cons_zero, List.set_cons_succ]
                  refine wpAnyH_take (i := 2) (oi := ⟨some 169, Op.indexAddr 26 (.tmp 167) (.tmp 168), 0, "apart.go:496", #[⟨0, .data⟩, ⟨1, .data⟩], none⟩) (v := ?_) rfl (by kernel_rfl) (by kernel_rfl) (by kernel_rfl) (fun _ _ _ h => h) (Or.inl ⟨by kernel_rfl, ?_⟩) hHeld ?_
                  rotate_left
                  focus (intro w hSw; (try dsimp only at hSw); go_simp; try with_reducible rfl)
                  try simp only [Act.put, List.setIfInBounds_toArray, List.set_cons_zero, List.set_cons_succ]
                  refine wpAnyH_take (i := 3) (oi := ⟨some 170, Op.load 25 (.tmp 169), 25, "apart.go:496", #[⟨2, .data⟩], none⟩) (v := ?_) rfl (by kernel_rfl) (by kernel_rfl) (by kernel_rfl) (fun _ _ _ h => h) (Or.inl ⟨by kernel_rfl, ?_⟩) hHeld ?_
                  rotate_left
                  focus (intro w hSw; (try dsimp only at hSw); go_simp; try with_reducible rfl)
                  try simp only [Act.put, List.setIfInBounds_toArray, List.set_cons_zero, List.set_cons_succ]
                  refine wpAnyH_take (i := 4) (oi := ⟨some 171, Op.move (.tmp 15), 3, "apart.go:496", #[], none⟩) (v := ?_) rfl (by kernel_rfl) (by kernel_rfl) (by kernel_rfl) (fun _ _ _ h => h) (Or.inl ⟨by kernel_rfl, ?_⟩) hHeld ?_
                  rotate_left
                  focus (intro w hSw; (try dsimp only at hSw); go_simp; try with_reducible rfl)
                  try simp only [Act.put, List.setIfInBounds_toArray, List.set_cons_zero, List.set_cons_succ]
                  refine wpAnyH_take (i := 5) (oi := ⟨some 172, Op.indexAddr 25 (.tmp 170) (.tmp 171), 0, "apart.go:496", #[⟨3, .data⟩, ⟨4, .data⟩], none⟩) (v := ?_) rfl (by kernel_rfl) (by kernel_rfl) (by kernel_rfl) (fun _ _ _ h => h) (Or.inl ⟨by kernel_rfl, ?_⟩) hHeld ?_
                  rotate_left
                  focus (intro w hSw; (try dsimp only at hSw); go_simp; try with_reducible rfl)
                  try simp only [Act.put, List.setIfInBounds_toArray, List.set_cons_zero, List.set_cons_succ]
                  refine wpAnyH_take (i := 6) (oi := ⟨some 173, Op.load 24 (.tmp 172), 24, "apart.go:496", #[⟨5, .data⟩], none⟩) (v := ?_) rfl (by kernel_rfl) (by kernel_rfl) (by kernel_rfl) (fun _ _ _ h => h) (Or.inl ⟨by kernel_rfl, ?_⟩) hHeld ?_
                  rotate_left
                  focus (intro w hSw; (try dsimp only at hSw); go_simp; try with_reducible rfl)
                  try simp only [Act.put, List.setIfInBounds_toArray, List.set_cons_zero, List.set_cons_succ]
                  refine wpAnyH_take (i := 7) (oi := ⟨some 174, Op.move (.tmp 14), 3, "apart.go:496", #[], none⟩) (v := ?_) rfl (by kernel_rfl) (by kernel_rfl) (by kernel_rfl) (fun _ _ _ h => h) (Or.inl ⟨by kernel_rfl, ?_⟩) hHeld ?_
                  rotate_left
                  focus (intro w hSw; (try dsimp only at hSw); go_simp; try with_reducible rfl)
                  try simp only [Act.put, List.setIfInBounds_toArray, List.set_cons_zero, List.set_cons_succ]
                  refine wpAnyH_take (i := 8) (oi := ⟨some 175, Op.move (.tmp 15), 3, "apart.go:496", #[], none⟩) (v := ?_) rfl (by kernel_rfl) (by kernel_rfl) (by kernel_rfl) (fun _ _ _ h => h) (Or.inl ⟨by kernel_rfl, ?_⟩) hHeld ?_
                  rotate_left
                  focus (intro w hSw; (try dsimp only at hSw); go_simp; try with_reducible rfl)
                  try simp only [Act.put, List.setIfInBounds_toArray, List.set_cons_zero, List.set_cons_succ]
                  refine wpAnyH_ready (rs := [9]) (by kernel_rfl) (by simp) ?_
                  refine AllReadyH.cons (o := ⟨some 176, Op.call ⟨.value (.func 74), #[.tmp 174, .tmp 175], #[3, 3]⟩, 24, "apart.go:496", #[⟨7, .data⟩, ⟨8, .data⟩], none⟩) rfl (fun K hK => ?_) AllReadyH.nil
                  go_simp
                  go_at_call 74
                  refine (HMR.out _).mono ?_
                  rintro er w6 ⟨rfl, hb6⟩
                  obtain ⟨h1, h2, h3, h4, h5, h6, h7⟩ := id hHeld
                  have hS6 := And.intro (fkeep_cell hb6 h1) (And.intro (fkeep_cell hb6 h2) (And.intro (fkeep_cell hb6 h3) (And.intro (fkeep_cell hb6 h4) (And.intro (fkeep_cell hb6 h5) (And.intro (fkeep_cell hb6 h6) (Lib.hid (L2.below h7.out hb6 HM.out)))))))
                  clear hb6 h1 h2 h3 h4 h5 h6 h7
                  try go_wp2_with fail
                  refine hK.out _ _ hS6 (fun hHeld2 => ?_)
                  clear hK K hS6
                  try simp only [Act.put, List.setIfInBounds_toArray, List.set_cons_zero, List.set_cons_succ]
                  refine wpAnyH_take (i := 10) (oi := ⟨some 177, Op.binOp BinOp.eql 24 (.tmp 173) (.tmp 176) 24, 4, "apart.go:496", #[⟨6, .data⟩, ⟨9, .data⟩], none⟩) (v := ?_) rfl (by kernel_rfl) (by kernel_rfl) (by kernel_rfl) (fun _ _ _ h => h) (Or.inl ⟨by kernel_rfl, ?_⟩) hHeld2 ?_
                  rotate_left
                  focus (intro w hSw; (try dsimp only at hSw); go_simp; try with_reducible rfl)
                  try simp only [Act.put, List.setIfInBounds_toArray, List.set_cons_zero, List.set_cons_succ]
                  refine wpAnyH_take (i := 11) (oi := ⟨some 178, Op.unOp UnOp.not 4 (.tmp 177), 4, "apart.go:496", #[⟨10, .data⟩], none⟩) (v := ?_) rfl (by kernel_rfl) (by kernel_rfl) (by kernel_rfl) (fun _ _ _ h => h) (Or.inl ⟨by kernel_rfl, ?_⟩) hHeld2 ?_
                  rotate_left
                  focus (intro w hSw; (try dsimp only at hSw); go_simp; try with_reducible rfl)
                  try simp only [Act.put, List.setIfInBounds_toArray, List.set_cons_zero, List.set_cons_succ]
                  refine wpAnyH_take (i := 12) (oi := ⟨some 179, Op.move (.tmp 178), 4, "apart.go:496", #[⟨11, .data⟩, ⟨9, .chain⟩], none⟩) (v := ?_) rfl (by kernel_rfl) (by kernel_rfl) (by kernel_rfl) (fun _ _ _ h => h) (Or.inl ⟨by kernel_rfl, ?_⟩) hHeld2 ?_
                  rotate_left
                  focus (intro w hSw; (try dsimp only at hSw); go_simp; try with_reducible rfl)
                  try simp only [Act.put, List.setIfInBounds_toArray, List.set_cons_zero, List.set_cons_succ]
                  refine wpAnyH_take (i := 13) (oi := ⟨some 180, Op.move (.tmp 5), 26, "apart.go:496", #[⟨12, .guard⟩], some (12, false)⟩) (v := ?_) rfl (by kernel_rfl) (by kernel_rfl) (by kernel_rfl) (fun _ _ _ h => h) (Or.inl ⟨by kernel_rfl, ?_⟩) hHeld2 ?_
                  rotate_left
                  focus (intro w hSw; (try dsimp only at hSw); go_simp; try with_reducible rfl)
                  try simp only [Act.put, List.setIfInBounds_toArray, List.set_cons_zero, List.set_cons_succ]
                  refine wpAnyH_take (i := 14) (oi := ⟨some 181, Op.move (.tmp 14), 3, "apart.go:496", #[⟨12, .guard⟩], some (12, false)⟩) (v := ?_) rfl (by kernel_rfl) (by kernel_rfl) (by kernel_rfl) (fun _ _ _ h => h) (Or.inl ⟨by kernel_rfl, ?_⟩) hHeld2 ?_
                  rotate_left
                  focus (intro w hSw; (try dsimp only at hSw); go_simp; try with_reducible rfl)
                  try simp only [Act.put, List.setIfInBounds_toArray, List.set_cons_zero, List.set_cons_succ]
                  refine wpAnyH_take (i := 15) (oi := ⟨some 182, Op.indexAddr 26 (.tmp 180) (.tmp 181), 0, "apart.go:496", #[⟨13, .data⟩, ⟨14, .data⟩, ⟨12, .guard⟩], some (12, false)⟩) (v := ?_) rfl (by kernel_rfl) (by kernel_rfl) (by kernel_rfl) (fun _ _ _ h => h) (Or.inl ⟨by kernel_rfl, ?_⟩) hHeld2 ?_
                  rotate_left
                  focus (intro w hSw; (try dsimp only at hSw); go_simp; try with_reducible rfl)
                  try simp only [Act.put, List.setIfInBounds_toArray, List.set_cons_zero, List.set_cons_succ]
                  refine wpAnyH_take (i := 16) (oi := ⟨some 183, Op.load 25 (.tmp 182), 25, "apart.go:496", #[⟨15, .data⟩, ⟨12, .guard⟩], some (12, false)⟩) (v := ?_) rfl (by kernel_rfl) (by kernel_rfl) (by kernel_rfl) (fun _ _ _ h => h) (Or.inl ⟨by kernel_rfl, ?_⟩) hHeld2 ?_
                  rotate_left
                  focus (intro w hSw; (try dsimp only at hSw); go_simp; try with_reducible rfl)
                  try simp only [Act.put, List.setIfInBounds_toArray, List.set_cons_zero, List.set_cons_succ]
                  refine wpAnyH_take (i := 17) (oi := ⟨some 184, Op.move (.tmp 15), 3, "apart.go:496", #[⟨12, .guard⟩], some (12, false)⟩) (v := ?_) rfl (by kernel_rfl) (by kernel_rfl) (by kernel_rfl) (fun _ _ _ h => h) (Or.inl ⟨by kernel_rfl, ?_⟩) hHeld2 ?_
                  rotate_left
                  focus (intro w hSw; (try dsimp only at hSw); go_simp; try with_reducible rfl)
                  try simp only [Act.put, List.setIfInBounds_toArray, List.set_cons_zero, List.set_cons_succ]
                  refine wpAnyH_take (i := 18) (oi := ⟨some 185, Op.indexAddr 25 (.tmp 183) (.tmp 184), 0, "apart.go:496", #[⟨16, .data⟩, ⟨17, .data⟩, ⟨12, .guard⟩], some (12, false)⟩) (v := ?_) rfl (by kernel_rfl) (by kernel_rfl) (by kernel_rfl) (fun _ _ _ h => h) (Or.inl ⟨by kernel_rfl, ?_⟩) hHeld2 ?_
                  rotate_left
                  focus (intro w hSw; (try dsimp only at hSw); go_simp; try with_reducible rfl)
                  try simp only [Act.put, List.setIfInBounds_toArray, List.set_cons_zero, List.set_cons_succ]
                  refine wpAnyH_take (i := 19) (oi := ⟨some 186, Op.load 24 (.tmp 185), 24, "apart.go:496", #[⟨18, .data⟩, ⟨12, .guard⟩], some (12, false)⟩) (v := ?_) rfl (by kernel_rfl) (by kernel_rfl) (by kernel_rfl) (fun _ _ _ h => h) (Or.inl ⟨by kernel_rfl, ?_⟩) hHeld2 ?_
                  rotate_left
                  focus (intro w hSw; (try dsimp only at hSw); go_simp; try with_reducible rfl)
                  try simp only [Act.put, List.setIfInBounds_toArray, List.set_cons_zero, List.set_cons_succ]
                  refine wpAnyH_take (i := 20) (oi := ⟨some 187, Op.move (.tmp 14), 3, "apart.go:496", #[⟨12, .guard⟩], some (12, false)⟩) (v := ?_) rfl (by kernel_rfl) (by kernel_rfl) (by kernel_rfl) (fun _ _ _ h => h) (Or.inl ⟨by kernel_rfl, ?_⟩) hHeld2 ?_
                  rotate_left
                  focus (intro w hSw; (try dsimp only at hSw); go_simp; try with_reducible rfl)
                  try simp only [Act.put, List.setIfInBounds_toArray, List.set_cons_zero, List.set_cons_succ]
                  refine wpAnyH_take (i := 21) (oi := ⟨some 188, Op.move (.tmp 15), 3, "apart.go:496", #[⟨12, .guard⟩], some (12, false)⟩) (v := ?_) rfl (by kernel_rfl) (by kernel_rfl) (by kernel_rfl) (fun _ _ _ h => h) (Or.inl ⟨by kernel_rfl, ?_⟩) hHeld2 ?_
                  rotate_left
                  focus (intro w hSw; (try dsimp only at hSw); go_simp; try with_reducible rfl)
                  try simp only [Act.put, List.setIfInBounds_toArray, List.set_cons_zero, List.set_cons_succ]
                  refine wpAnyH_ready (rs := [22]) (by kernel_rfl) (by simp) ?_
                  refine AllReadyH.cons (o := ⟨some 189, Op.call ⟨.value (.func 74), #[.tmp 187, .tmp 188], #[3, 3]⟩, 24, "apart.go:496", #[⟨20, .data⟩, ⟨21, .data⟩, ⟨12, .chain⟩, ⟨12, .guard⟩], some (12, false)⟩) rfl (fun K hK => ?_) AllReadyH.nil
                  go_simp
                  go_at_call 74
                  refine (HMR.out _).mono ?_
                  rintro er w6 ⟨rfl, hb6⟩
                  obtain ⟨h1, h2, h3, h4, h5, h6, h7⟩ := id hHeld2
                  have hS6 := And.intro (fkeep_cell hb6 h1) (And.intro (fkeep_cell hb6 h2) (And.intro (fkeep_cell hb6 h3) (And.intro (fkeep_cell hb6 h4) (And.intro (fkeep_cell hb6 h5) (And.intro (fkeep_cell hb6 h6) (Lib.hid (L2.below h7.out hb6 HM.out)))))))
                  clear hb6 h1 h2 h3 h4 h5 h6 h7
                  try go_wp2_with fail
                  refine hK.out _ _ hS6 (fun hHeld22 => ?_)
                  clear hK K hS6
                  try simp only [Act.put, List.setIfInBounds_toArray, List.set_cons_zero, List.set_cons_succ]
                  refine wpAnyH_take (i := 23) (oi := ⟨some 190, Op.binOp BinOp.eql 24 (.tmp 186) (.tmp 189) 24, 4, "apart.go:496", #[⟨19, .data⟩, ⟨22, .data⟩, ⟨12, .guard⟩], some (12, false)⟩) (v := ?_) rfl (by kernel_rfl) (by kernel_rfl) (by kernel_rfl) (fun _ _ _ h => h) (Or.inl ⟨by kernel_rfl, ?_⟩) hHeld22 ?_
                  rotate_left
                  focus (intro w hSw; (try dsimp only at hSw); go_simp; try with_reducible rfl)
                  try simp only [Act.put, List.setIfInBounds_toArray, List.set_cons_zero, List.set_cons_succ]
                  refine wpAnyH_take (i := 24) (oi := ⟨some 191, Op.unOp UnOp.not 4 (.tmp 190), 4, "apart.go:496", #[⟨23, .data⟩, ⟨12, .guard⟩], some (12, false)⟩) (v := ?_) rfl (by kernel_rfl) (by kernel_rfl) (by kernel_rfl) (fun _ _ _ h => h) (Or.inl ⟨by kernel_rfl, ?_⟩) hHeld22 ?_
                  rotate_left
                  focus (intro w hSw; (try dsimp only at hSw); go_simp; try with_reducible rfl)
                  try simp only [Act.put, List.setIfInBounds_toArray, List.set_cons_zero, List.set_cons_succ]
                  refine wpAnyH_take (i := 25) (oi := ⟨some 192, Op.pick (.tmp 179) (.const (Value.bool true)) (.tmp 191), 4, "apart.go:496", #[⟨12, .data⟩, ⟨24, .data⟩], none⟩) (v := ?_) rfl (by kernel_rfl) (by kernel_rfl) (by kernel_rfl) (fun _ _ _ h => h) (Or.inl ⟨by kernel_rfl, ?_⟩) hHeld22 ?_
                  rotate_left
                  focus (intro w hSw; (try dsimp only at hSw); go_simp; try with_reducible rfl)
                  try simp only [Act.put, List.setIfInBounds_toArray, List.set_cons_zero, List.set_cons_succ]
                  refine wpAnyH_done (by kernel_rfl) ?_ _
                  go_wp2
                  go_roundw
                  case rel => exact ⟨i + 1, by omega, by go_num, hHeld22.2.2.2.2.2.2, hHeld22.1⟩
                  case measure => simp [intOf]; omega
                · have hiI : (n : Int) ≤ i := by omega
                  go_wp2
                  go_roundw
                  case rel => exact ⟨j + 1, by have := HJ.out; omega, by go_num, HL.out⟩
                  case measure => have := HJ.out; simp [intOf]; omega
              · have hjI3 : (k : Int) ≤ j := by omega
                go_wp2
                go_ret
                exact ⟨rfl, HL.out.but⟩
end Go.Proofs.YtglgfpapackcdaaGreat
