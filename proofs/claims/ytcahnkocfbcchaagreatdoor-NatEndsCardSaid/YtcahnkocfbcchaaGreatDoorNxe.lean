/- Marks of numbers: each has a digit's block of its own; A tells which. -/
/- The walk of the kit's flatNats at rows that lie apart. -/
import Derived.Test.YtcahnkocfbcchaaGreatDoorNxb
import Derived.Test.YtcahnkocfbcchaaGreatDoorNxc

namespace Go.Proofs.YtcahnkocfbcchaaGreatDoor
open Go.RowKit Tnd

/-- the cells of a mark: one digit, in block A k i. -/
def mcT (A : Nat → Nat → Nat) (k i : Nat) : List Value := [.slice (some ⟨A k i, 0, none⟩) 1 1]
theorem mcT_length (A : Nat → Nat → Nat) (k i : Nat) : (mcT A k i).length = 1 := rfl
def upA (A : Nat → Nat → Nat) (k i g : Nat) : Nat → Nat → Nat := fun j t => if j = k ∧ t = i then g else A j t
theorem upA_same (A : Nat → Nat → Nat) (k i g : Nat) : upA A k i g k i = g := if_pos ⟨rfl, rfl⟩
theorem upA_ne (A : Nat → Nat → Nat) {k i g j t : Nat} (h : ¬ (j = k ∧ t = i)) : upA A k i g j t = A j t := if_neg h
theorem mrow_congr {A A' : Nat → Nat → Nat} {k : Nat} : ∀ {n : Nat}, (∀ i, i < n → A k i = A' k i) → mrow (mcT A) k n = mrow (mcT A') k n
  | 0, _ => rfl
  | n + 1, h => by
    rw [mrow_succ, mrow_succ, mrow_congr fun i hi => h i (by omega)]
    unfold mcT
    rw [h n (by omega)]
theorem mrow_up {A : Nat → Nat → Nat} {k i g j n : Nat} (h : j ≠ k ∨ n ≤ i) : mrow (mcT (upA A k i g)) j n = mrow (mcT A) j n :=
  mrow_congr fun t ht => upA_ne A fun ⟨h1, h2⟩ => by rcases h with h | h <;> omega
theorem mrow_upS (A : Nat → Nat → Nat) (k i g : Nat) : mrow (mcT (upA A k i g)) k (i + 1) = mrow (mcT A) k i ++ [.slice (some ⟨g, 0, none⟩) 1 1] := by
  rw [mrow_succ, mrow_up (.inr (Nat.le_refl _))]
  unfold mcT
  rw [upA_same]
theorem L1.upA {A : Nat → Nat → Nat} {ds : List D} {m k i g k0 : Nat} {w wr : World} (h : L1 1 (mcT A) ds m w k0 wr) (hk : k0 ≤ k ∨ ∀ j, j < m → j = k → (dg ds j).n ≤ i) : L1 1 (mcT (Go.Proofs.YtcahnkocfbcchaaGreatDoor.upA A k i g)) ds m w k0 wr :=
  ⟨h.but, h.room, fun j hj hjm => by
    rw [mrow_up (by
      by_cases e : j = k
      · rcases hk with hk | hk
        · omega
        · exact .inr (hk j hjm e)
      · exact .inl e)]
    exact h.fill j hj hjm⟩
theorem L2.upA {A : Nat → Nat → Nat} {ds es : List D} {m x k i g G Z : Nat} {w wr : World} (h : L2 1 (mcT A) ds es m x G Z w wr) (hd : ∀ j, j < m → j = k → (dg ds j).n ≤ i) (he : ∀ j, j < es.length → j = k → (dg ds j).n + x ≤ i) : L2 1 (mcT (Go.Proofs.YtcahnkocfbcchaaGreatDoor.upA A k i g)) ds es m x G Z w wr :=
  ⟨h.but, h.room, fun j hj => by
    rw [mrow_up (by
      by_cases e : j = k
      · exact .inr (hd j hj e)
      · exact .inl e)]
    exact h.fill j hj, h.roomE, fun j hj => by
    rw [mrow_up (by
      by_cases e : j = k
      · exact .inr (he j hj e)
      · exact .inl e)]
    exact h.fillE j hj, h.nE, h.place, h.gn, h.gz, h.zs, h.wz, h.free, h.cell, h.em, h.dw, h.wg⟩
/-- the digits' blocks of the marks that were written (S): new ones, none of them a block of these (N). -/
def TX (A : Nat → Nat → Nat) (S : Nat → Nat → Prop) (N : Nat → Prop) (w wr : World) : Prop :=
  ∀ j t, S j t → Bx wr (A j t) 46 #[.int .u32 (mk j t)] ∧ w.heap.size ≤ A j t ∧ ¬ N (A j t)
section
variable {A : Nat → Nat → Nat} {S S' : Nat → Nat → Prop} {N N' : Nat → Prop} {w wr W : World}
theorem TX.below (h : TX A S N w wr) (hb : Below wr.heap.size wr W) : TX A S N w W := fun j t hs => ⟨(h j t hs).1.below hb, (h j t hs).2⟩
theorem TX.but {T : Nat → Prop} (h : TX A S N w wr) (hb : But T wr W) (hT : ∀ b, T b → b < w.heap.size ∨ N b) : TX A S N w W := fun j t hs => by
  obtain ⟨h1, h2, h3⟩ := h j t hs
  refine ⟨(hb.block _ h1.lt fun s => ?_).trans h1, h2, h3⟩
  rcases hT _ s with h4 | h4
  · omega
  · exact h3 h4
theorem TX.few (h : TX A S N w wr) (hS : ∀ j t, S' j t → S j t) : TX A S' N w wr := fun j t hs => h j t (hS j t hs)
/-- a block that is new now is none of them. -/
theorem TX.more (h : TX A S N w wr) (hN : ∀ b, N' b → N b ∨ wr.heap.size ≤ b ∨ b < w.heap.size) : TX A S N' w wr := fun j t hs => by
  obtain ⟨h1, h2, h3⟩ := h j t hs
  refine ⟨h1, h2, fun s => ?_⟩
  rcases hN _ s with h4 | h4 | h4
  · exact h3 h4
  · have := h1.lt; omega
  · omega
theorem TX.skip {k i g : Nat} (h : TX A S N w wr) (hn : ¬ S k i) : TX (Go.Proofs.YtcahnkocfbcchaaGreatDoor.upA A k i g) S N w wr := fun j t hs => by
  rw [upA_ne A (fun ⟨e1, e2⟩ => hn (by rw [← e1, ← e2]; exact hs))]
  exact h j t hs
/-- one mark more, its block new. -/
theorem TX.mark {k i g : Nat} (h : TX A S N w wr) (hb : Below wr.heap.size wr W) (hg : Bx W g 46 #[.int .u32 (mk k i)]) (hgw : wr.heap.size ≤ g) (hw : w.heap.size ≤ wr.heap.size) (hN : ∀ b, N b → b < wr.heap.size) (hn : ¬ S k i) (hS : ∀ j t, S' j t → S j t ∨ (j = k ∧ t = i)) : TX (Go.Proofs.YtcahnkocfbcchaaGreatDoor.upA A k i g) S' N w W := fun j t hs => by
  by_cases e : j = k ∧ t = i
  · obtain ⟨rfl, rfl⟩ := e
    rw [upA_same]
    exact ⟨hg, by omega, fun s => by have := hN _ s; omega⟩
  · rw [upA_ne A e]
    rcases hS j t hs with h1 | h1
    · exact ⟨(h j t h1).1.below hb, (h j t h1).2⟩
    · exact absurd h1 e
end
end Go.Proofs.YtcahnkocfbcchaaGreatDoor


namespace Go.Proofs.YtcahnkocfbcchaaGreatDoor
open Go.RowKit Tnd

theorem finfo_N1 : (Tryz.prog.info? 24).map (fun i => (i.zero, i.size, i.bytes)) = some (some (.agg #[.slice none 0 0]), 1, 24) := by kernel_rfl
theorem finfo_NS : (Tryz.prog.info? 38).map (fun i => (i.zero, i.size, i.bytes)) = some (some (.slice none 0 0), 1, 24) := by kernel_rfl
theorem one_new2 (w : World) (l : List Value) (T : TypeId) : ∀ j x, l[j]? = some x → (w.alloc (.cells l.toArray T)).cell? ((⟨w.heap.size, 0, none⟩ : Addr).add j) = some x := cells_nine w l T
/-- which marks are written: of the first k rows; of row k the first i; of those that grow. -/
def Sd (ds : List D) (k : Nat) : Nat → Nat → Prop := fun j t => j < k ∧ t < (dg ds j).n
def S1 (ds : List D) (k i : Nat) : Nat → Nat → Prop := fun j t => (j < k ∧ t < (dg ds j).n) ∨ (j = k ∧ t < i)
def Sg (ds : List D) (m j i : Nat) : Nat → Nat → Prop := fun t u => (t < m ∧ u < (dg ds t).n) ∨ (t < j ∧ u < (dg ds t).n + 64) ∨ (t = j ∧ t < m ∧ u < (dg ds t).n + i)
def Ng (G : Nat) (es : List D) (p : Option Nat) : Nat → Prop := fun b => b = G ∨ InD es b ∨ p = some b
theorem inD_snoc {es : List D} {e : D} {b : Nat} (h : InD (es ++ [e]) b) : InD es b ∨ e.p = some b := by
  obtain ⟨k, hk, ek⟩ := h
  rcases Nat.lt_or_ge k es.length with h | h
  · rw [dg_front h] at ek; exact .inl ⟨k, h, ek⟩
  · obtain rfl : k = es.length := by rw [List.length_append, List.length_singleton] at hk; omega
    rw [dg_last] at ek; exact .inr ek

set_option maxHeartbeats 12800000 in
set_option maxRecDepth 100000 in
theorem flatNats_any (q : Option Addr) (cq m : Nat) (ds : List D) (w : World) (hm : m = ds.length) (hq : SlD w q ds) (hr : ∀ k, k < m → Room w 1 (dg ds k)) (hfar : Far ds) (hm1 : m ≤ 130) (hn : ∀ k, k < m → (dg ds k).n ≤ 100000) :
    Calls Tryz.prog 85 #[.slice q m cq] w fun e w' => e = .returned (.bool true) ∧ But (InD ds) w w' := by
  have HM := Lib.hid hm
  have HQ := Lib.hid hq
  have HF := Lib.hid hfar
  have HN := Lib.hid hn
  have HDW : Hid (∀ b, InD ds b → b < w.heap.size) := fun b ⟨j, hj, e⟩ => (hr j (by omega)).lt b e
  obtain ⟨i0, hinf, hz0, hz1, hz2⟩ := finfo_parts finfo_N1
  obtain ⟨i1, hinf1, hy0, hy1, hy2⟩ := finfo_parts finfo_NS
  have HA0 : Hid (∃ A, L1 1 (mcT A) ds m w 0 w ∧ TX A (Sd ds 0) (fun _ => False) w w) := ⟨fun _ _ => 0, ⟨But.refl _ _, hr, fun j hj => absurd hj (Nat.not_lt_zero j)⟩, fun j t hs => absurd hs.1 (Nat.not_lt_zero j)⟩
  have hmI : (m : Int) ≤ 130 := by omega
  clear hm hq hr hfar hn
  go_enter Tryz.func85, Tryz.ntmps85
  go_wp2
  go_loopw [3] (fun kv wr => ∃ (k : Nat), k ≤ m ∧ kv = .int .i64 (k : Nat) ∧ Hid (∃ A, L1 1 (mcT A) ds m w k wr ∧ TX A (Sd ds k) (fun _ => False) w wr)) (fun kv _ => m - (intOf kv).toNat)
  case atStart => exact ⟨0, Nat.zero_le _, rfl, HA0.out⟩
  case round =>
    clear HA0
    obtain ⟨k, hk, rfl, HA⟩ := hrel
    rename World => wr
    obtain ⟨A, hL0, hT0⟩ := HA.out
    have HL := Lib.hid hL0
    have HT := Lib.hid hT0
    clear hL0 hT0 HA
    by_cases hkm : k < m
    · have hkI : (k : Int) < m := by omega
      obtain ⟨bq, oq, rfl, hcq, hnb, _⟩ := slD_at (slD_but HQ.out HL.out.but) (show k < ds.length by have := HM.out; omega)
      obtain ⟨⟨p, n, c⟩, hd⟩ : ∃ d, d = dg ds k := ⟨_, rfl⟩
      have hnn := HN.out k hkm
      rw [← hd] at hcq hnn
      simp only [D.val, D.ad] at hcq hnn
      obtain ⟨ad, had⟩ : ∃ ad, ad = p.map fun b => (⟨b, 0, none⟩ : Addr) := ⟨_, rfl⟩
      rw [← had] at hcq
      have HD := Lib.hid hd.symm
      have HAD := Lib.hid had
      have HNB := Lib.hid hnb
      have hnI : (n : Int) ≤ 100000 := by omega
      clear hd had hnb hnn
      go_wp2
      go_loopw [4] (fun iv wq => ∃ (i : Nat), i ≤ n ∧ iv = .int .i64 (i : Nat) ∧ Hid (∃ A, L1 1 (mcT A) ds m w k wq ∧ Fill wq (dg ds k) (mrow (mcT A) k i) ∧ TX A (S1 ds k i) (fun _ => False) w wq) ∧ wq.cell? ⟨bq, oq + k, none⟩ = some (.slice ad n c)) (fun iv _ => n - (intOf iv).toNat)
      case atStart => exact ⟨0, Nat.zero_le _, rfl, ⟨A, HL.out, (fun b hb j u hu => by simp [mrow] at hu), HT.out.few (fun j t hs => by rcases hs with hs | ⟨_, hs⟩; exact hs; exact absurd hs (Nat.not_lt_zero t))⟩, hcq⟩
      case round =>
        clear HL HT hcq A
        obtain ⟨i, hi, rfl, HA, hcq⟩ := hrel
        rename World => wq
        obtain ⟨A, hL0, hF0, hT0⟩ := HA.out
        have HL := Lib.hid hL0
        have HFI := Lib.hid hF0
        have HT := Lib.hid hT0
        clear hL0 hF0 hT0 HA
        by_cases hin : i < n
        · have hiI : (i : Int) < n := by omega
          obtain ⟨b, hb⟩ := room_some (HL.out.room k hkm) (by rw [HD.out]; simp only; omega)
          rw [HD.out] at hb
          simp only at hb
          subst hb
          have had := HAD.out
          simp only [Option.map_some] at had
          subst had
          have hroom := HL.out.room k hkm
          rw [HD.out] at hroom
          obtain ⟨s0, f0⟩ := hroom.cell b rfl i (by have := hroom.le; simp only at this ⊢; omega)
          obtain ⟨u0, hu0⟩ := Option.isSome_iff_exists.1 s0
          have HMR : Hid (∀ W, Calls Tryz.prog 101 #[.int .i64 (k : Nat), .int .i64 (i : Nat)] W fun e w' => ∃ g, e = .returned (.agg #[.slice (some ⟨g, 0, none⟩) 1 1]) ∧ Bx w' g 46 #[.int .u32 (mk k i)] ∧ W.heap.size ≤ g ∧ Below W.heap.size W w') := fun W => markNatV_any k i W (by omega) (by omega)
          clear hroom s0
          go_wp2
          go_region_with (go_at_call 101; refine (HMR.out _).mono ?_; rintro e w6 ⟨g, rfl, hg6, hgs6, hb6⟩; have hcq6 := fkeep_cell hb6 hcq; have hu06 := fkeep_cell hb6 hu0; have f06 := fkeep_frozen hb6 hu0 f0; have HB6 := Lib.hid hb6; have HG6 := Lib.hid (And.intro hg6 hgs6); clear hb6 hg6 hgs6)
          all_goals
            have hL6 : L1 1 (mcT (upA A k i g)) ds m w k w6 := (HL.out.below (fl_drew HB6.out)).upA (.inl (Nat.le_refl _))
            have hF6 : Fill w6 (dg ds k) (mrow (mcT (upA A k i g)) k i) := by rw [mrow_up (.inr (Nat.le_refl _))]; exact HFI.out.below (HL.out.room k hkm) (fl_drew HB6.out)
            have hT6 : TX (upA A k i g) (S1 ds k (i + 1)) (fun _ => False) w w6 := HT.out.mark (fl_drew HB6.out) HG6.out.1 HG6.out.2 HL.out.but.size (fun _ f => f.elim) (fun hs => by rcases hs with ⟨h, _⟩ | ⟨_, h⟩ <;> omega) (fun j t hs => by
              rcases hs with h | ⟨rfl, h⟩
              · exact .inl (.inl h)
              · by_cases e : t = i
                · exact .inr ⟨rfl, e⟩
                · exact .inl (.inr ⟨rfl, by omega⟩))
            have hnew := mark_one (mcT_length (upA A k i g)) (w' := w6.setCell ⟨b, i, none⟩ (.slice (some ⟨g, 0, none⟩) 1 1)) HM.out HF.out hL6 hkm HD.out hin hF6 (by unfold mcT; rw [upA_same, Nat.mul_one]; rfl)
            have hT7 : TX (upA A k i g) (S1 ds k (i + 1)) (fun _ => False) w (w6.setCell ⟨b, i, none⟩ (.slice (some ⟨g, 0, none⟩) 1 1)) :=
              hT6.but (But.setCell _ _ _) (fun z e => .inl (by rw [e]; exact HDW.out b ⟨k, by have := HM.out; omega, by rw [HD.out]⟩))
            have HT7 := Lib.hid hT7
            have HNEW := Lib.hid hnew
            have hcn := slD_cell (slD_but HQ.out hnew.1.but) (show k < ds.length by have := HM.out; omega)
            rw [HD.out, val_some] at hcn
            clear hL6 hF6 hnew hT6 hT7
            go_wp2
            go_roundw
          case rel => exact ⟨i + 1, by omega, by go_num, ⟨_, HNEW.out.1, HNEW.out.2, HT7.out⟩, hcn⟩
          case measure => simp [intOf]; omega
          case rel => exact ⟨i + 1, by omega, by go_num, ⟨_, HNEW.out.1, HNEW.out.2, HT7.out⟩, hcn⟩
          case measure => simp [intOf]; omega
        · have hiI : (n : Int) ≤ i := by omega
          obtain rfl : i = n := by omega
          go_wp2
          go_roundw
          case rel => exact ⟨k + 1, by omega, by go_num, A, ⟨HL.out.but, HL.out.room, fun j hj hjm => by
            by_cases e : j = k
            · subst e; have := HFI.out; rw [HD.out] at this ⊢; exact this
            · exact HL.out.fill j (by omega) hjm⟩, HT.out.few (fun j t hs => by
            by_cases e : j = k
            · subst e; exact .inr ⟨rfl, by have := hs.2; rw [HD.out] at this; exact this⟩
            · exact .inl ⟨by have := hs.1; omega, hs.2⟩)⟩
          case measure => simp [intOf]; omega
    · have hkI : (m : Int) ≤ k := by omega
      obtain rfl : k = m := by omega
      go_wp2_with (at_make; refine wpList_make_full _ rfl _ _ 39 rfl wr.heap.size 38 i1 (.slice none 0 0) 1 Tryz.underlying39 hinf1 hy0 hy1 .i64 .i64 _ _ k rfl rfl rfl rfl (by rw [hy2]; omega) (by simp only [maxLen]; omega) (Nat.le_refl _) ?_; intro w2 ho2 hg2)
      have hL2 : L2 1 (mcT A) ds [] k 64 wr.heap.size w2.heap.size w w2 := L2.start HL.out hg2 ho2 HM.out HDW.out
      have hT2 : TX A (Sg ds k 0 0) (Ng wr.heap.size [] none) w w2 := ((HT.out.few (fun j t hs => by
        rcases hs with h | ⟨h, _⟩ | ⟨_, h, h2⟩
        · exact h
        · exact absurd h (Nat.not_lt_zero j)
        · exact ⟨h, h2⟩)).more (fun b hb => by
        rcases hb with rfl | ⟨t, ht, _⟩ | h
        · exact .inr (.inl (Nat.le_refl _))
        · simp at ht
        · cases h)).but (But.ofGrown hg2) (fun b h => by cases h)
      have HA2 : Hid (∃ A, L2 1 (mcT A) ds [] k 64 wr.heap.size w2.heap.size w w2 ∧ TX A (Sg ds k 0 0) (Ng wr.heap.size [] none) w w2) := ⟨A, hL2, hT2⟩
      clear hL2 hT2 ho2 hg2 HL HT A
      generalize wr.heap.size = G at *
      generalize hZ : w2.heap.size = Z at *
      clear hZ wr
      go_loopw [6] (fun kv wr => ∃ (j : Nat) (es : List D), j ≤ k ∧ kv = .int .i64 (j : Nat) ∧ Hid (es.length = j) ∧ Hid (∃ A, L2 1 (mcT A) ds es k 64 G Z w wr ∧ TX A (Sg ds k j 0) (Ng G es none) w wr)) (fun kv _ => k - (intOf kv).toNat)
      case atStart => exact ⟨0, [], Nat.zero_le _, rfl, rfl, HA2.out⟩
      case round =>
        clear HA2
        obtain ⟨j, es, hj, rfl, HE, HA⟩ := hrel
        rename World => wr
        obtain ⟨A, hL0, hT0⟩ := HA.out
        have HL := Lib.hid hL0
        have HT := Lib.hid hT0
        clear hL0 hT0 HA
        by_cases hjk : j < k
        · have hjI : (j : Int) < k := by omega
          obtain ⟨bq, oq, rfl, hcq, hnb, _⟩ := slD_at (slD_but HQ.out HL.out.but) (show j < ds.length by have := HM.out; omega)
          obtain ⟨⟨p, n, c⟩, hd⟩ : ∃ d, d = dg ds j := ⟨_, rfl⟩
          have hnn := HN.out j hjk
          rw [← hd] at hcq hnn
          simp only at hnn
          have hv : D.val ⟨p, n, c⟩ = .slice (D.ad ⟨p, n, c⟩) n c := rfl
          rw [hv] at hcq
          obtain ⟨ad, had⟩ : ∃ ad, ad = D.ad ⟨p, n, c⟩ := ⟨_, rfl⟩
          rw [← had] at hcq
          have HD := Lib.hid hd.symm
          have HAD := Lib.hid had
          have hnI : (n : Int) ≤ 100000 := by omega
          have HAT : Hid (At2 ds es j G Z wr ⟨p, n, c⟩) := by have := HL.out.at0 (by rw [HE.out]; exact hjk); rw [HE.out, HD.out] at this; exact this
          have HRM : Hid (Room wr 1 ⟨p, n, c⟩) := by have := HL.out.room j hjk; rw [HD.out] at this; exact this
          have HFI : Hid (Fill wr ⟨p, n, c⟩ (mrow (mcT A) j (n + 0))) := by have := HL.out.fill j hjk; rw [HD.out] at this; exact this
          have HJ := Lib.hid hjk
          clear hd hnb hnn hv had hjk
          go_wp2
          go_loopw [7, 8] (fun gv iv wq => ∃ (i : Nat) (e : D), i ≤ 64 ∧ gv = e.val ∧ iv = .int .i64 (i : Nat) ∧ Hid (∃ A, L2 1 (mcT A) ds es k 64 G Z w wq ∧ Fill wq e (mrow (mcT A) j (n + i)) ∧ TX A (Sg ds k j i) (Ng G es e.p) w wq) ∧ Hid (At2 ds es j G Z wq e) ∧ Hid (Room wq 1 e) ∧ Hid (e.n = n + i) ∧ wq.cell? ⟨bq, oq + j, none⟩ = some (.slice ad n c)) (fun _ iv _ => 64 - (intOf iv).toNat)
          case atStart => exact ⟨0, ⟨p, n, c⟩, Nat.zero_le _, (by rw [HAD.out]; rfl), rfl, ⟨A, HL.out, HFI.out, HT.out.more (fun b hb => by
            rcases hb with h | h | h
            · exact .inl (.inl h)
            · exact .inl (.inr (.inl h))
            · exact .inr (.inr (HDW.out b ⟨j, by have := HM.out; have := HJ.out; omega, by rw [HD.out]; exact h⟩)))⟩, HAT.out, HRM.out, rfl, hcq⟩
          case round =>
            clear HL HT HAT HRM HFI hcq A
            obtain ⟨i, e, hi, rfl, rfl, HA, HAT, HRM, HEN, hcq⟩ := hrel
            rename World => wq
            obtain ⟨A, hL0, hF0, hT0⟩ := HA.out
            have HL := Lib.hid hL0
            have HFI := Lib.hid hF0
            have HT := Lib.hid hT0
            clear hL0 hF0 hT0 HA
            by_cases hi64 : i < 64
            · have hiI : (i : Int) < 64 := by omega
              have hen := HEN.out
              have HMR : Hid (∀ (W : World) (z : Int), z = (n : Int) + i → Calls Tryz.prog 101 #[.int .i64 (j : Nat), .int .i64 z] W fun e w' => ∃ g, e = .returned (.agg #[.slice (some ⟨g, 0, none⟩) 1 1]) ∧ Bx w' g 46 #[.int .u32 (mk j (n + i))] ∧ W.heap.size ≤ g ∧ Below W.heap.size W w') := by
                rintro W z rfl
                have := markNatV_any j (n + i) W (by omega) (by omega)
                rw [← Int.natCast_add]; exact this
              have HI := Lib.hid hi64
              have HNI := Lib.hid (show n ≤ 100000 by omega)
              have HEB := Lib.hid (show e.n ≤ 100100 by omega)
              clear hi64 hen hi
              go_wp2_with (first
                | (go_at_call 101; refine (HMR.out _ _ (by first | rfl | omega)).mono ?_; rintro er w6 ⟨g, rfl, hg6, hgs6, hb6⟩; have HB6 := Lib.hid hb6; have HG6 := Lib.hid (And.intro hg6 hgs6); clear hb6 hg6 hgs6)
                | (at_builtin; refine wpList_append_far rfl _ _ 38 rfl 24 i0 (.agg #[.slice none 0 0]) 1 24 Tryz.underlying38 hinf hz0 hz1 hz2 rfl (by decide) e rfl ((HRM.out.below HB6.out).below ((Below.refl _ _).alloc (Nat.le_refl _) _)) _ ?c1 ((HFI.out.below HRM.out HB6.out).below (HRM.out.below HB6.out) ((Below.refl _ _).alloc (Nat.le_refl _) _)) ⟨w6.heap.size, 0, none⟩ 1 1 [.slice (some ⟨g, 0, none⟩) 1 1] rfl rfl (one_new2 _ [.slice (some ⟨g, 0, none⟩) 1 1] _) (by simp [Value.oneCell']) (by decide) ?c2 ?c3 ?_))
              case c1 => rw [mrow_length (mcT_length A), HEN.out]
              case c2 => have := HEB.out; simp only [maxLen]; omega
              case c3 => have := HEB.out; omega
              intro e' w7 hgr
              have hL6 := (HL.out.below HB6.out HM.out).below ((Below.refl w6.heap.size w6).alloc (Nat.le_refl _) (.cells #[.slice (some ⟨g, 0, none⟩) 1 1] 24)) HM.out
              have hL6 := hL6.upA (k := j) (i := n + i) (g := g) (fun t _ e => by subst e; rw [HD.out]; simp only; omega) (fun t ht e => by have := HE.out; omega)
              have hT6 : TX (upA A j (n + i) g) (Sg ds k j (i + 1)) (Ng G es e.p) w w6 := HT.out.mark HB6.out HG6.out.1 HG6.out.2 HL.out.but.size (fun b hb => by
                rcases hb with rfl | ⟨t, ht, et⟩ | h
                · have := HL.out.gz; have := HL.out.zs; omega
                · exact (HL.out.roomE t ht).lt b et
                · exact HRM.out.lt b h) (fun hs => by
                rcases hs with ⟨_, h⟩ | ⟨h, _⟩ | ⟨_, _, h⟩
                · rw [HD.out] at h; simp only at h; omega
                · omega
                · rw [HD.out] at h; simp only at h; omega) (fun t u hs => by
                rcases hs with h | h | ⟨rfl, h, h2⟩
                · exact .inl (.inl h)
                · exact .inl (.inr (.inl h))
                · by_cases e : u = n + i
                  · exact .inr ⟨rfl, e⟩
                  · refine .inl (.inr (.inr ⟨rfl, h, ?_⟩))
                    rw [HD.out] at h2 ⊢
                    simp only at h2 ⊢
                    omega)
              have hT7 : TX (upA A j (n + i) g) (Sg ds k j (i + 1)) (Ng G es e'.p) w w7 := (((hT6.below ((Below.refl w6.heap.size w6).alloc (Nat.le_refl _) (.cells #[.slice (some ⟨g, 0, none⟩) 1 1] 24))).more (N' := fun b => Ng G es e.p b ∨ e'.p = some b) (fun b hb => by
                rcases hb with h | h
                · exact .inl h
                · rcases hgr.2.2.2.2.2 with ⟨h2, _⟩ | ⟨b2, h2, h3⟩
                  · exact .inl (.inr (.inr (by rw [← h2]; exact h)))
                  · rw [h] at h2; cases h2; exact .inr (.inl h3))).but (But.ofGrown hgr.2.2.2.1) (fun b hb => .inr (.inl (.inr (.inr hb))))).more (fun b hb => by
                rcases hb with h | h | h
                · exact .inl (.inl (.inl h))
                · exact .inl (.inl (.inr (.inl h)))
                · exact .inl (.inr h))
              have HT7 := Lib.hid hT7
              have hstep := hL6.grewAt HM.out HF.out HE.out HJ.out HAT.out.world (n := n) (by rw [HD.out]) (by have := HEN.out; omega) (mcT_length _) hgr
              have HS := Lib.hid hstep
              have HFN : Hid (Fill w7 e' (mrow (mcT (upA A j (n + i) g)) j (n + (i + 1)))) := by
                show Fill w7 e' _
                have := HS.out.2.2.2.1
                rw [← Nat.add_assoc, mrow_upS]
                exact this
              have HEN2 : Hid (e'.n = n + (i + 1)) := by have := HS.out.2.2.2.2; have := HEN.out; show _ = _; omega
              have hcn := slD_cell (slD_but HQ.out hstep.1.but) (show j < ds.length by have := HM.out; have := HJ.out; omega)
              rw [HD.out, show D.val ⟨p, n, c⟩ = .slice ad n c by rw [HAD.out]; rfl] at hcn
              clear hL6 hT6 hT7 hstep hgr hcq
              go_wp2
              go_roundw
              case rel => exact ⟨i + 1, e', by have := HI.out; omega, rfl, by go_num, ⟨_, HS.out.1, HFN.out, HT7.out⟩, HS.out.2.1, HS.out.2.2.1, HEN2, hcn⟩
              case measure => have := HI.out; simp [intOf]; omega
            · have hiI : (64 : Int) ≤ i := by omega
              obtain rfl : i = 64 := by omega
              obtain ⟨p', n', c'⟩ := e
              obtain ⟨ad', had'⟩ : ∃ a, a = D.ad ⟨p', n', c'⟩ := ⟨_, rfl⟩
              rw [show D.val ⟨p', n', c'⟩ = .slice ad' n' c' by rw [had']; rfl]
              obtain ⟨f1, f2⟩ := HL.out.free j HJ.out
              obtain ⟨u0, hu0⟩ := Option.isSome_iff_exists.1 f1
              have hput := HL.out.putAt HM.out HE.out HJ.out HAT.out (n := n) (by rw [HD.out]) HRM.out HFI.out HEN.out
              rw [show D.val ⟨p', n', c'⟩ = .slice ad' n' c' by rw [had']; rfl] at hput
              have hT7 : TX A (Sg ds k (j + 1) 0) (Ng G (es ++ [⟨p', n', c'⟩]) none) w _ := ((HT.out.but (But.setCell wq ⟨G, j, none⟩ (.slice ad' n' c')) (fun b e => .inr (.inl e))).few (fun t u hs => by
                rcases hs with h | ⟨h, h2⟩ | ⟨rfl, h, h2⟩
                · exact .inl h
                · by_cases e : t = j
                  · subst e; exact .inr (.inr ⟨rfl, HJ.out, h2⟩)
                  · exact .inr (.inl ⟨by omega, h2⟩)
                · exact .inl ⟨h, h2⟩)).more (fun b hb => by
                rcases hb with h | h | h
                · exact .inl (.inl h)
                · rcases inD_snoc h with h | h
                  · exact .inl (.inr (.inl h))
                  · exact .inl (.inr (.inr h))
                · cases h)
              have HT7 := Lib.hid hT7
              clear hT7
              have HPUT := Lib.hid hput
              clear had' hput f1 hcq
              go_wp2
              go_roundw
              case rel => exact ⟨j + 1, _, by have := HJ.out; omega, by go_num, HPUT.out.2, ⟨_, HPUT.out.1, HT7.out⟩⟩
              case measure => have := HJ.out; simp [intOf]; omega
        · have hjI : (k : Int) ≤ j := by omega
          obtain rfl : k = j := by omega
          clear hj
          go_wp2
          go_loopw [9] (fun kv wr => ∃ (j : Nat), j ≤ k ∧ kv = .int .i64 (j : Nat) ∧ Hid (∃ A, L2 1 (mcT A) ds es k 64 G Z w wr ∧ TX A (Sg ds k k 0) (Ng G es none) w wr)) (fun kv _ => k - (intOf kv).toNat)
          case atStart => exact ⟨0, Nat.zero_le _, rfl, A, HL.out, HT.out⟩
          case round =>
          clear HL HT A
          obtain ⟨j, hj, rfl, HA⟩ := hrel
          rename World => wr
          obtain ⟨A, hL0, hT0⟩ := HA.out
          have HL := Lib.hid hL0
          have HT := Lib.hid hT0
          clear hL0 hT0 HA
          by_cases hjk : j < k
          · have hjI2 : (j : Int) < k := by omega
            obtain ⟨bq, oq, rfl, hcq, hnb, _⟩ := slD_at (slD_but HQ.out HL.out.but) (show j < ds.length by have := HM.out; omega)
            obtain ⟨⟨p, n, c⟩, hd⟩ : ∃ d, d = dg ds j := ⟨_, rfl⟩
            obtain ⟨⟨p2, n2, c2⟩, he⟩ : ∃ d, d = dg es j := ⟨_, rfl⟩
            have hnn := HN.out j hjk
            have hn2 := HL.out.nE j (by rw [HE.out]; exact hjk)
            have hcg := HL.out.cell j (by rw [HE.out]; exact hjk)
            have hre := HL.out.roomE j (by rw [HE.out]; exact hjk)
            rw [← hd] at hcq hnn hn2
            rw [← he] at hn2 hcg hre
            simp only at hnn hn2
            subst hn2
            obtain ⟨b2, hb2⟩ := room_some hre (by simp only; omega)
            simp only at hb2
            subst hb2
            rw [val_some] at hcg
            have hv : D.val ⟨p, n, c⟩ = .slice (D.ad ⟨p, n, c⟩) n c := rfl
            rw [hv] at hcq
            obtain ⟨ad, had⟩ : ∃ ad, ad = D.ad ⟨p, n, c⟩ := ⟨_, rfl⟩
            rw [← had] at hcq
            have HD := Lib.hid hd.symm
            have HED := Lib.hid he.symm
            have HAD := Lib.hid had
            have hnI : (n : Int) ≤ 100000 := by omega
            have hcI : (n : Int) + 64 ≤ c2 := by have := hre.le; simp only at this; omega
            have HJ := Lib.hid hjk
            clear hd he hnb hnn hv had hre hjk
            go_wp2
            go_loopw [10] (fun iv wq => ∃ (i : Nat), i ≤ n + 64 ∧ iv = .int .i64 (i : Nat) ∧ Hid (∃ A, L2 1 (mcT A) ds es k 64 G Z w wq ∧ TX A (Sg ds k k 0) (Ng G es none) w wq) ∧ wq.cell? ⟨bq, oq + j, none⟩ = some (.slice ad n c) ∧ wq.cell? ⟨G, j, none⟩ = some (.slice (some ⟨b2, 0, none⟩) (n + 64) c2)) (fun iv _ => n + 64 - (intOf iv).toNat)
            case atStart => exact ⟨0, Nat.zero_le _, rfl, ⟨A, HL.out, HT.out⟩, hcq, hcg⟩
            case round =>
              clear HL HT hcq hcg A
              obtain ⟨i, hi, rfl, HA, hcq, hcg⟩ := hrel
              rename World => wq
              obtain ⟨A, hL0, hT0⟩ := HA.out
              have HL := Lib.hid hL0
              have HT := Lib.hid hT0
              clear hL0 hT0 HA
              by_cases hi64 : i < n + 64
              · have hiI : (i : Int) < (n : Int) + 64 := by omega
                have hfe := HL.out.fillE j (by rw [HE.out]; exact HJ.out)
                rw [HED.out, HD.out] at hfe
                have he0 := mrow_cell (mcT_length A) hfe rfl hi64 (show 0 < 1 by omega) (show (mcT A j i)[0]? = some (.slice (some ⟨A j i, 0, none⟩) 1 1) from rfl)
                rw [Nat.mul_one, Nat.add_zero] at he0
                have HMR : Hid (∀ W : World, Calls Tryz.prog 101 #[.int .i64 (j : Nat), .int .i64 (i : Nat)] W fun e w' => ∃ g : Nat, e = .returned (.agg #[.slice (some ⟨g, 0, none⟩) 1 1]) ∧ Bx w' g 46 #[.int .u32 (mk j i)] ∧ Below W.heap.size W w') := fun W => (markNatV_any j i W (by have := HJ.out; omega) (by omega)).mono fun _ _ ⟨g, h1, h2, _, h3⟩ => ⟨g, h1, h2, h3⟩
                have htg := (HT.out j i (.inr (.inl ⟨HJ.out, by rw [HD.out]; exact hi64⟩))).1
                clear hfe
                by_cases hin : i < n
                · have hiJ : (i : Int) < n := by omega
                  have hlt : decide ((i : Int) < n) = true := by rw [decide_eq_true_iff]; omega
                  have hltN : decide (i < n) = true := by rw [decide_eq_true_iff]; omega
                  have hroom := HL.out.room j HJ.out
                  obtain ⟨b, hb⟩ := room_some hroom (by rw [HD.out]; simp only; omega)
                  rw [HD.out] at hb hroom
                  simp only at hb
                  subst hb
                  have had := HAD.out
                  rw [show D.ad ⟨some b, n, c⟩ = some ⟨b, 0, none⟩ from rfl] at had
                  subst had
                  have hfd := HL.out.fill j HJ.out
                  rw [HD.out] at hfd
                  have hd0 := mrow_cell (mcT_length A) hfd rfl hin (show 0 < 1 by omega) (show (mcT A j i)[0]? = some (.slice (some ⟨A j i, 0, none⟩) 1 1) from rfl)
                  rw [Nat.mul_one, Nat.add_zero] at hd0
                  clear hfd hroom
                  go_wp2
                  refine fnA_wp G bq oq k cq j i b b2 n c c2 (A j i) (A j i) (mk j i) (by rfl) (by rfl) (by rfl) (by rfl) (by rfl) HJ.out (fkeep_cell (bl_drew wq) hcg) (fkeep_cell (bl_drew wq) hcq) hin (fkeep_cell (bl_drew wq) he0) (htg.below (bl_drew wq)) (fkeep_cell (bl_drew wq) hd0) (htg.below (bl_drew wq)) HMR.out (fun V g g2 h h2 => sameMark_any g g2 _ (mk_lo _ _) V h h2) ?_ _
                  intro f y hk hb
                  have e34 : f 34 = .bool false := hk 34 (by decide) (by decide)
                  rw [e34]
                  have hby := bl_trans (bl_drew wq) hb
                  have HL' := Lib.hid (HL.out.below hby HM.out)
                  have HT' := Lib.hid (HT.out.below hby)
                  have hcq' := fkeep_cell hby hcq
                  have hcg' := fkeep_cell hby hcg
                  clear hk hb e34 hby hcq hcg he0 hd0 htg
                  generalize f 0 = f0, f 1 = f1, f 2 = f2, f 3 = f3, f 4 = f4, f 5 = f5, f 6 = f6, f 7 = f7, f 8 = f8, f 9 = f9, f 10 = f10, f 11 = f11, f 12 = f12, f 13 = f13, f 14 = f14, f 15 = f15, f 16 = f16, f 17 = f17, f 18 = f18, f 19 = f19, f 20 = f20, f 21 = f21, f 22 = f22, f 23 = f23, f 24 = f24, f 25 = f25, f 26 = f26, f 27 = f27, f 28 = f28, f 29 = f29, f 30 = f30, f 31 = f31, f 32 = f32, f 33 = f33
                  simp only [putL, List.foldl, Act.put, List.setIfInBounds_toArray, List.set_cons_zero, List.set_cons_succ]
                  clear f
                  go_wp2
                  go_roundw
                  case rel => exact ⟨i + 1, by omega, by go_num, ⟨A, HL'.out, HT'.out⟩, hcq', hcg'⟩
                  case measure => simp [intOf]; omega
                · have hiJ : (n : Int) ≤ i := by omega
                  have hlt : decide ((i : Int) < n) = false := by rw [decide_eq_false_iff_not]; omega
                  have hltN : decide (i < n) = false := by rw [decide_eq_false_iff_not]; omega
                  go_wp2
                  refine fnB_wp G bq oq k cq j i b2 n c c2 (A j i) ad (mk j i) (by rfl) (by rfl) (by rfl) (by rfl) (by rfl) HJ.out (fkeep_cell (bl_drew wq) hcg) (fkeep_cell (bl_drew wq) hcq) (by omega) hi64 (fkeep_cell (bl_drew wq) he0) (htg.below (bl_drew wq)) HMR.out (fun V g g2 h h2 => sameMark_any g g2 _ (mk_lo _ _) V h h2) ?_ _
                  intro f y hk hb
                  have e34 : f 34 = .bool false := hk 34 (by decide) (by decide)
                  rw [e34]
                  have hby := bl_trans (bl_drew wq) hb
                  have HL' := Lib.hid (HL.out.below hby HM.out)
                  have HT' := Lib.hid (HT.out.below hby)
                  have hcq' := fkeep_cell hby hcq
                  have hcg' := fkeep_cell hby hcg
                  clear hk hb e34 hby hcq hcg he0 htg
                  generalize f 0 = f0, f 1 = f1, f 2 = f2, f 3 = f3, f 4 = f4, f 5 = f5, f 6 = f6, f 7 = f7, f 8 = f8, f 9 = f9, f 10 = f10, f 11 = f11, f 12 = f12, f 13 = f13, f 14 = f14, f 15 = f15, f 16 = f16, f 17 = f17, f 18 = f18, f 19 = f19, f 20 = f20, f 21 = f21, f 22 = f22, f 23 = f23, f 24 = f24, f 25 = f25, f 26 = f26, f 27 = f27, f 28 = f28, f 29 = f29, f 30 = f30, f 31 = f31, f 32 = f32, f 33 = f33
                  simp only [putL, List.foldl, Act.put, List.setIfInBounds_toArray, List.set_cons_zero, List.set_cons_succ]
                  clear f
                  go_wp2
                  go_roundw
                  case rel => exact ⟨i + 1, by omega, by go_num, ⟨A, HL'.out, HT'.out⟩, hcq', hcg'⟩
                  case measure => simp [intOf]; omega
              · have hiI : (n : Int) + 64 ≤ i := by omega
                go_wp2
                go_roundw
                case rel => exact ⟨j + 1, by have := HJ.out; omega, by go_num, A, HL.out, HT.out⟩
                case measure => have := HJ.out; simp [intOf]; omega
          · have hjI2 : (k : Int) ≤ j := by omega
            obtain rfl : k = j := by omega
            have HA0 : Hid (∃ A, L2 1 (mcT A) ds [] k 0 G Z w _ ∧ TX A (Sd ds k) (Ng G [] none) w _) := ⟨A, HL.out.anew (y := 0), (HT.out.few (fun _ _ hs => .inl hs)).more (fun b hb => by
              rcases hb with h | ⟨t, ht, _⟩ | h
              · exact .inl (.inl h)
              · simp at ht
              · cases h)⟩
            clear HL HT HE hj A
            go_wp2
            go_loopw [11] (fun kv wr => ∃ (j : Nat) (es : List D), j ≤ k ∧ kv = .int .i64 (j : Nat) ∧ Hid (es.length = j) ∧ Hid (∃ A, L2 1 (mcT A) ds es k 0 G Z w wr ∧ TX A (Sd ds k) (Ng G es none) w wr)) (fun kv _ => k - (intOf kv).toNat)
            case atStart => exact ⟨0, [], Nat.zero_le _, rfl, rfl, HA0.out⟩
            case round =>
            clear HA0
            obtain ⟨j, es, hj, rfl, HE, HA⟩ := hrel
            rename World => wr
            obtain ⟨A, hL0, hT0⟩ := HA.out
            have HL := Lib.hid hL0
            have HT := Lib.hid hT0
            clear hL0 hT0 HA
            by_cases hjk : j < k
            · have hjI : (j : Int) < k := by omega
              have HJ := Lib.hid hjk
              go_wp2_with (at_make; refine wpList_make_full _ rfl _ _ 38 rfl wr.heap.size 24 i0 (.agg #[.slice none 0 0]) 1 Tryz.underlying38 hinf hz0 hz1 .i64 .i64 _ _ 64 rfl rfl rfl rfl (by rw [hz2]; omega) (by simp only [maxLen]; omega) (Nat.le_refl _) ?_; intro w2 ho2 hg2)
              have hb2 : Below wr.heap.size wr w2 := ⟨hg2.os, hg2.tape, hg2.output, hg2.size, fun k hk => hg2.block k hk (by simp)⟩
              have HL2 := Lib.hid (HL.out.below hb2 HM.out)
              have HT2 : Hid (TX A (Sd ds k) (fun b => Ng G es none b ∨ b = wr.heap.size) w w2) := (HT.out.more (fun b hb => by
                rcases hb with h | h
                · exact .inl h
                · exact .inr (.inl (Nat.le_of_eq h.symm)))).below hb2
              have hro := room_of_full ho2
              have HRM := Lib.hid hro
              have HFI : Hid (Fill w2 ⟨some wr.heap.size, 64, 64⟩ (mrow (mcT A) (j + k) 0)) := fun b hb t u hu => by simp [mrow] at hu
              have HMB : Hid (¬ InD ds wr.heap.size ∧ ¬ InD es wr.heap.size ∧ wr.heap.size ≠ G ∧ w.heap.size ≤ wr.heap.size) := by
                refine ⟨fun s => ?_, fun s => ?_, ?_, ?_⟩
                · have := HDW.out _ s; have := HL.out.but.size; omega
                · obtain ⟨t, ht, et⟩ := s; have := (HL.out.roomE t ht).lt _ et; omega
                · have := HL.out.gz; have := HL.out.zs; omega
                · exact HL.out.but.size
              clear HL HT hro ho2 hg2 hb2
              generalize wr.heap.size = M at *
              clear wr hjk
              go_loopw [13] (fun iv wq => ∃ (i : Nat), i ≤ 64 ∧ iv = .int .i64 (i : Nat) ∧ Hid (∃ A, L2 1 (mcT A) ds es k 0 G Z w wq ∧ Fill wq ⟨some M, 64, 64⟩ (mrow (mcT A) (j + k) i) ∧ TX A (Sd ds k) (fun b => Ng G es none b ∨ b = M) w wq) ∧ Hid (Room wq 1 ⟨some M, 64, 64⟩)) (fun iv _ => 64 - (intOf iv).toNat)
              case atStart => exact ⟨0, by omega, rfl, ⟨A, HL2.out, HFI.out, HT2.out⟩, HRM.out⟩
              case round =>
              clear HL2 HRM HFI HT2 A
              obtain ⟨i, hi, rfl, HA, HRM⟩ := hrel
              rename World => wq
              obtain ⟨A, hL0, hF0, hT0⟩ := HA.out
              have HL := Lib.hid hL0
              have HFI := Lib.hid hF0
              have HT := Lib.hid hT0
              clear hL0 hF0 hT0 HA
              by_cases hi64 : i < 64
              · have hiI : (i : Int) < 64 := by omega
                have HMR : Hid (∀ (W : World) (z : Int), z = (j : Int) + k → Calls Tryz.prog 101 #[.int .i64 z, .int .i64 (i : Nat)] W fun e w' => ∃ g, e = .returned (.agg #[.slice (some ⟨g, 0, none⟩) 1 1]) ∧ Bx w' g 46 #[.int .u32 (mk (j + k) i)] ∧ W.heap.size ≤ g ∧ Below W.heap.size W w') := by
                  rintro W z rfl
                  have := markNatV_any (j + k) i W (by have := HJ.out; omega) (by omega)
                  rw [← Int.natCast_add]; exact this
                have HI := Lib.hid hi64
                clear hi64 hi
                go_wp2_with (go_at_call 101; refine (HMR.out _ _ (by first | rfl | omega)).mono ?_; rintro er w6 ⟨g, rfl, hg6, hgs6, hb6⟩; have hr6 := HRM.out.below hb6; have HR6 := Lib.hid hr6; have HF6 := Lib.hid (HFI.out.below HRM.out hb6); have HL6 := Lib.hid (HL.out.below hb6 HM.out); have HT6 := Lib.hid (HT.out.below hb6); obtain ⟨s0, f0⟩ := hr6.cell M rfl i (by have := HI.out; simp only; omega); obtain ⟨u0, hu0⟩ := Option.isSome_iff_exists.1 s0; clear hb6 hr6 s0 hg6 hgs6)
                have hw : w6.setCell ⟨M, i, none⟩ (.slice (some ⟨g, 0, none⟩) 1 1) = w6.setCells M (i * 1) (mcT (upA A (j + k) i g) (j + k) i) := by unfold mcT; rw [upA_same, Nat.mul_one]; rfl
                have hn1 : L2 1 (mcT (upA A (j + k) i g)) ds es k 0 G Z w (w6.setCells M (i * 1) (mcT (upA A (j + k) i g) (j + k) i)) := (HL6.out.upA (k := j + k) (i := i) (g := g) (fun t ht e => by omega) (fun t ht e => by have := HE.out; have := HJ.out; omega)).but' (But.ofGrown (grown_setCells w6 M (i * 1) _)) (fun b s => by
                  simp only [Option.some.injEq] at s
                  subst s
                  exact HMB.out) HM.out
                have hn2 := room_set HR6.out M (i * 1) (mcT (upA A (j + k) i g) (j + k) i)
                have hn3 : Fill (w6.setCells M (i * 1) (mcT (upA A (j + k) i g) (j + k) i)) ⟨some M, 64, 64⟩ (mrow (mcT (upA A (j + k) i g)) (j + k) (i + 1)) := fill_set (mcT_length _) HR6.out rfl (by have := HI.out; simp only; omega) (by rw [mrow_up (.inr (Nat.le_refl _))]; exact HF6.out)
                have hn4 : TX (upA A (j + k) i g) (Sd ds k) (fun b => Ng G es none b ∨ b = M) w (w6.setCells M (i * 1) (mcT (upA A (j + k) i g) (j + k) i)) := (HT6.out.skip (k := j + k) (i := i) (g := g) (fun hs => by have := hs.1; omega)).but (But.ofGrown (grown_setCells w6 M (i * 1) _)) (fun b s => by
                  simp only [Option.some.injEq] at s
                  exact .inr (.inr s.symm))
                rw [← hw] at hn1 hn2 hn3 hn4
                have HN4 := Lib.hid hn4
                have HN1 := Lib.hid hn1
                have HN2 := Lib.hid hn2
                have HN3 := Lib.hid hn3
                clear hn1 hn2 hn3 hn4 hw
                go_wp2
                go_roundw
                case rel => exact ⟨i + 1, by have := HI.out; omega, by go_num, ⟨_, HN1.out, HN3.out, HN4.out⟩, HN2.out⟩
                case measure => have := HI.out; simp [intOf]; omega
              · have hiI : (64 : Int) ≤ i := by omega
                obtain rfl : i = 64 := by omega
                obtain ⟨bq, oq, rfl, hcq, hnb, _⟩ := slD_at (slD_but HQ.out HL.out.but) (show j < ds.length by have := HM.out; have := HJ.out; omega)
                obtain ⟨⟨p, n, c⟩, hd⟩ : ∃ d, d = dg ds j := ⟨_, rfl⟩
                have hnn := HN.out j HJ.out
                rw [← hd] at hcq hnn
                simp only at hnn
                have hv : D.val ⟨p, n, c⟩ = .slice (D.ad ⟨p, n, c⟩) n c := rfl
                rw [hv] at hcq
                obtain ⟨ad, had⟩ : ∃ ad, ad = D.ad ⟨p, n, c⟩ := ⟨_, rfl⟩
                rw [← had] at hcq
                have HD := Lib.hid hd.symm
                have HAD := Lib.hid had
                have HNN := Lib.hid hnn
                have HRD : Hid (Room wq 1 ⟨p, n, c⟩) := by have := HL.out.room j HJ.out; rw [HD.out] at this; exact this
                have HFD : Hid (Fill wq ⟨p, n, c⟩ (mrow (mcT A) j n)) := by have := HL.out.fill j HJ.out; rw [HD.out] at this; exact this
                have HAT : Hid (At2 ds es j G Z wq ⟨p, n, c⟩) := by have := HL.out.at0 (by rw [HE.out]; exact HJ.out); rw [HE.out, HD.out] at this; exact this
                have HNEW : Hid (∀ t u, (mrow (mcT A) (j + k) 64)[t]? = some u → wq.cell? ((⟨M, 0, none⟩ : Addr).add t) = some u) := fun t u hu => by
                  rw [Addr.add_lit, Nat.zero_add]; exact HFI.out M rfl t u hu
                have HONE : Hid (∀ u ∈ mrow (mcT A) (j + k) 64, u.oneCell' = true) := by
                  intro u hu
                  unfold mrow at hu
                  rw [List.mem_flatMap] at hu
                  obtain ⟨t, _, ht⟩ := hu
                  simp only [mcT, List.mem_cons, List.not_mem_nil, or_false] at ht
                  subst ht; rfl
                clear hd hnb hnn hv had HFI HRM hi
                go_wp2_with (at_builtin; refine wpList_append_far rfl _ _ 38 rfl 24 i0 (.agg #[.slice none 0 0]) 1 24 Tryz.underlying38 hinf hz0 hz1 hz2 rfl (by decide) ⟨p, n, c⟩ (by show Value.slice ad n c = _; rw [HAD.out]; rfl) HRD.out _ (mrow_length (mcT_length A) j n) HFD.out ⟨M, 0, none⟩ 64 64 (mrow (mcT A) (j + k) 64) rfl (mrow_length (mcT_length A) _ 64) HNEW.out HONE.out (by decide) ?c2 ?c3 ?_)
                case c2 => have := HNN.out; simp only [maxLen]; omega
                case c3 => have := HNN.out; omega
                intro e' w7 hgr
                have hstep := HL.out.grewAt HM.out HF.out HE.out HJ.out HAT.out (n := n) (by rw [HD.out]) (Nat.le_refl _) (mcT_length _) hgr
                obtain ⟨f1, f2⟩ := hstep.1.free j HJ.out
                obtain ⟨u0, hu0⟩ := Option.isSome_iff_exists.1 f1
                have hput := hstep.1.putAt HM.out HE.out HJ.out hstep.2.1 (n := n) (by rw [HD.out]) hstep.2.2.1 hstep.2.2.2.1.front hstep.2.2.2.2
                obtain ⟨p', n', c'⟩ := e'
                obtain ⟨ad', had'⟩ : ∃ a, a = D.ad ⟨p', n', c'⟩ := ⟨_, rfl⟩
                rw [show D.val ⟨p', n', c'⟩ = .slice ad' n' c' by rw [had']; rfl] at hput ⊢
                have hT7 : TX A (Sd ds k) (Ng G (es ++ [⟨p', n', c'⟩]) none) w _ := (((HT.out.more (N' := fun b => Ng G es none b ∨ p' = some b ∨ p = some b) (fun b hb => by
                  rcases hb with h | h | h
                  · exact .inl (.inl h)
                  · rcases hgr.2.2.2.2.2 with ⟨h2, _⟩ | ⟨b2, h2, h3⟩
                    · exact .inr (.inr (HDW.out b ⟨j, by have := HM.out; have := HJ.out; omega, by rw [HD.out]; exact h2.symm.trans h⟩))
                    · simp only at h2
                      rw [h] at h2; cases h2; exact .inr (.inl h3)
                  · exact .inr (.inr (HDW.out b ⟨j, by have := HM.out; have := HJ.out; omega, by rw [HD.out]; exact h⟩)))).but (But.ofGrown hgr.2.2.2.1) (fun b hb => .inr (.inr (.inr hb)))).but (But.setCell w7 ⟨G, j, none⟩ (.slice ad' n' c')) (fun b e => .inr (.inl (.inl e)))).more (fun b hb => by
                  rcases hb with h | h | h
                  · exact .inl (.inl (.inl h))
                  · rcases inD_snoc h with h | h
                    · exact .inl (.inl (.inr (.inl h)))
                    · exact .inl (.inr (.inl h))
                  · cases h)
                have HT7 := Lib.hid hT7
                clear hT7
                have HPUT := Lib.hid hput
                clear had' hput f1 hcq hgr hstep
                go_wp2
                go_roundw
                case rel => exact ⟨j + 1, _, by have := HJ.out; omega, by go_num, HPUT.out.2, ⟨_, HPUT.out.1, HT7.out⟩⟩
                case measure => have := HJ.out; simp [intOf]; omega
            · have hjI2 : (k : Int) ≤ j := by omega
              obtain rfl : k = j := by omega
              clear hj
              go_wp2
              go_loopw [14] (fun kv wr => ∃ (j : Nat), j ≤ k ∧ kv = .int .i64 (j : Nat) ∧ Hid (∃ A, L2 1 (mcT A) ds es k 0 G Z w wr ∧ TX A (Sd ds k) (Ng G es none) w wr)) (fun kv _ => k - (intOf kv).toNat)
              case atStart => exact ⟨0, Nat.zero_le _, rfl, A, HL.out, HT.out⟩
              case round =>
              clear HL HT A
              obtain ⟨j, hj, rfl, HA⟩ := hrel
              rename World => wr
              obtain ⟨A, hL0, hT0⟩ := HA.out
              have HL := Lib.hid hL0
              have HT := Lib.hid hT0
              clear hL0 hT0 HA
              by_cases hjk : j < k
              · have hjI3 : (j : Int) < k := by omega
                obtain ⟨bq, oq, rfl, hcq, hnb, _⟩ := slD_at (slD_but HQ.out HL.out.but) (show j < ds.length by have := HM.out; omega)
                obtain ⟨⟨p, n, c⟩, hd⟩ : ∃ d, d = dg ds j := ⟨_, rfl⟩
                have hnn := HN.out j hjk
                rw [← hd] at hcq hnn
                simp only at hnn
                have hv : D.val ⟨p, n, c⟩ = .slice (D.ad ⟨p, n, c⟩) n c := rfl
                rw [hv] at hcq
                obtain ⟨ad, had⟩ : ∃ ad, ad = D.ad ⟨p, n, c⟩ := ⟨_, rfl⟩
                rw [← had] at hcq
                have HD := Lib.hid hd.symm
                have HAD := Lib.hid had
                have hnI : (n : Int) ≤ 100000 := by omega
                have HJ := Lib.hid hjk
                clear hd hnb hnn hv had hjk
                go_wp2
                go_loopw [15] (fun iv wq => ∃ (i : Nat), i ≤ n ∧ iv = .int .i64 (i : Nat) ∧ Hid (∃ A, L2 1 (mcT A) ds es k 0 G Z w wq ∧ TX A (Sd ds k) (Ng G es none) w wq) ∧ wq.cell? ⟨bq, oq + j, none⟩ = some (.slice ad n c)) (fun iv _ => n - (intOf iv).toNat)
                case atStart => exact ⟨0, Nat.zero_le _, rfl, ⟨A, HL.out, HT.out⟩, hcq⟩
                case round =>
                clear HL HT hcq A
                obtain ⟨i, hi, rfl, HA, hcq⟩ := hrel
                rename World => wq
                obtain ⟨A, hL0, hT0⟩ := HA.out
                have HL := Lib.hid hL0
                have HT := Lib.hid hT0
                clear hL0 hT0 HA
                by_cases hin : i < n
                · have hiI : (i : Int) < n := by omega
                  have hcg := HL.out.cell j (by rw [HE.out]; exact HJ.out)
                  have hre := HL.out.roomE j (by rw [HE.out]; exact HJ.out)
                  have hfe := HL.out.fillE j (by rw [HE.out]; exact HJ.out)
                  have hn2 := HL.out.nE j (by rw [HE.out]; exact HJ.out)
                  have hrd := HL.out.room j HJ.out
                  have hfd := HL.out.fill j HJ.out
                  obtain ⟨⟨p2, n2, c2⟩, he⟩ : ∃ d, d = dg es j := ⟨_, rfl⟩
                  rw [← he] at hcg hre hfe hn2
                  rw [HD.out] at hfe hn2 hrd hfd
                  simp only at hn2
                  subst hn2
                  obtain ⟨b2, hb2⟩ := room_some hre (by simp only; omega)
                  obtain ⟨b, hb⟩ := room_some hrd (by simp only; omega)
                  simp only at hb hb2
                  subst hb2
                  subst hb
                  rw [val_some] at hcg
                  have had := HAD.out
                  rw [show D.ad ⟨some b, n, c⟩ = some ⟨b, 0, none⟩ from rfl] at had
                  subst had
                  have hd0 := mrow_cell (mcT_length A) hfd rfl hin (show 0 < 1 by omega) (show (mcT A j i)[0]? = some (.slice (some ⟨A j i, 0, none⟩) 1 1) from rfl)
                  rw [Nat.mul_one, Nat.add_zero] at hd0
                  have he0 := mrow_cell (mcT_length A) hfe rfl (show i < n + 0 from hin) (show 0 < 1 by omega) (show (mcT A j i)[0]? = some (.slice (some ⟨A j i, 0, none⟩) 1 1) from rfl)
                  rw [Nat.mul_one, Nat.add_zero] at he0
                  have HMR : Hid (∀ W : World, Calls Tryz.prog 101 #[.int .i64 (j : Nat), .int .i64 (i : Nat)] W fun e w' => ∃ g : Nat, e = .returned (.agg #[.slice (some ⟨g, 0, none⟩) 1 1]) ∧ Bx w' g 46 #[.int .u32 (mk j i)] ∧ Below W.heap.size W w') := fun W => (markNatV_any j i W (by have := HJ.out; omega) (by omega)).mono fun _ _ ⟨g, h1, h2, _, h3⟩ => ⟨g, h1, h2, h3⟩
                  have htg := (HT.out j i ⟨HJ.out, by rw [HD.out]; exact hin⟩).1
                  have hcJ : (n : Int) + 64 ≤ c2 := by have := hre.le; simp only at this; omega
                  have hnJ : (i : Int) < (n : Int) + 64 := by omega
                  clear hfe hfd hre hrd he
                  go_wp2
                  refine fnC_wp G bq oq k cq j i b b2 n c c2 (A j i) (A j i) (mk j i) (by rfl) (by rfl) (by rfl) (by rfl) (by rfl) HJ.out (fkeep_cell (bl_drew wq) hcg) (fkeep_cell (bl_drew wq) hcq) hin (fkeep_cell (bl_drew wq) he0) (htg.below (bl_drew wq)) (fkeep_cell (bl_drew wq) hd0) (htg.below (bl_drew wq)) HMR.out (fun V g g2 h h2 => sameMark_any g g2 _ (mk_lo _ _) V h h2) ?_ _
                  intro f y hk hb
                  have e25 : f 25 = .bool false := hk 25 (by decide) (by decide)
                  rw [e25]
                  have hby := bl_trans (bl_drew wq) hb
                  have HL' := Lib.hid (HL.out.below hby HM.out)
                  have HT' := Lib.hid (HT.out.below hby)
                  have hcq' := fkeep_cell hby hcq
                  clear hk hb e25 hby hcq hcg he0 hd0 htg
                  generalize f 0 = f0, f 1 = f1, f 2 = f2, f 3 = f3, f 4 = f4, f 5 = f5, f 6 = f6, f 7 = f7, f 8 = f8, f 9 = f9, f 10 = f10, f 11 = f11, f 12 = f12, f 13 = f13, f 14 = f14, f 15 = f15, f 16 = f16, f 17 = f17, f 18 = f18, f 19 = f19, f 20 = f20, f 21 = f21, f 22 = f22, f 23 = f23, f 24 = f24
                  simp only [putL, List.foldl, Act.put, List.setIfInBounds_toArray, List.set_cons_zero, List.set_cons_succ]
                  clear f
                  go_wp2
                  go_roundw
                  case rel => exact ⟨i + 1, by omega, by go_num, ⟨A, HL'.out, HT'.out⟩, hcq'⟩
                  case measure => simp [intOf]; omega
                · have hiI : (n : Int) ≤ i := by omega
                  go_wp2
                  go_roundw
                  case rel => exact ⟨j + 1, by have := HJ.out; omega, by go_num, A, HL.out, HT.out⟩
                  case measure => have := HJ.out; simp [intOf]; omega
              · have hjI3 : (k : Int) ≤ j := by omega
                go_wp2
                go_ret
                exact ⟨rfl, HL.out.but⟩
end Go.Proofs.YtcahnkocfbcchaaGreatDoor

