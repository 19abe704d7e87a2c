import Derived.Test.YtkefndfgkmdphaaGreatFi
import Derived.Test.YtkefndfgkmdphaaGreatMf
import Derived.Test.YtkefndfgkmdphaaGreatRd
import Derived.Deep.QuietTactic

namespace Go.Proofs.YtkefndfgkmdphaaGreat
set_option maxHeartbeats 3200000
set_option maxRecDepth 100000
open Go.RowKit Tnr Tnt

def rightT (xs : List NV) (nm : List ByteArray) : Bool := soundB xs nm && match ordT (nds xs) with
 | none => false
 | some l => writtenB xs l nm.length
theorem rightT_any (p : Option Addr) (n c : Nat) (xs : List NV) (pn : Option Addr) (nn cn : Nat) (nm : List ByteArray) (w : World) (hn : n = xs.length) (hnm : n ≤ 1000000) (hp : SlN w p xs) (hf : Few xs) (hk : KindsIn xs) (hnn : nn = nm.length) (hnc : nn ≤ cn) (hX : SlX w pn nm) :
  Calls Tryz.prog 29 #[.agg #[.slice p n c, .slice pn nn cn]] w fun e w' => e = .returned (.bool (rightT xs nm)) ∧ Below w.heap.size w w' := by
 obtain ⟨W1, hW1⟩ : ∃ W, W = w.alloc (.cells #[.slice p n c, .slice pn nn cn] 34) := ⟨_, rfl⟩
 have hb1 : Below w.heap.size w W1 := by rw [hW1]; exact bl_alloc _ _
 have hT : Bx W1 w.heap.size 34 #[.slice p n c, .slice pn nn cn] := by rw [hW1]; exact Bx.new w _ _
 have HO := lh (sound_any p n c xs pn nn cn nm W1 hn hnm (hp.below hb1) hf hk hnn hnc (hX.below hb1))
 have HB1 := lh hb1
 have HT := lh hT
 have HW1 := lh hW1
 have HP := lh (hp.below hb1)
 have HN := lh (And.intro hn hnn)
 clear hp hf hb1 hW1 hn hnm hk hnn hnc hX hT
 go_enter Tryz.func29, Tryz.ntmps29
 go_wp2_with fail
 rw [← HW1.out]
 refine HO.out.mono ?_
 rintro e w5 ⟨hb5, ⟨ho, a0, n0, c0, a1, n1, c1, a2, n2, c2, rfl⟩ | ⟨l, pf, cf, pd, cd, hs, ho, hl, hF, rfl, hfs, hds⟩⟩
 ·have HV : Hid (rightT xs nm = false) := by show _ = _; unfold rightT; rw [ho]; rfl
  have HB5 := lh (bl_trans HB1.out hb5)
  clear ho hb5
  go_wp2
  go_ret
  exact ⟨by rw [HV.out]; rfl, bl_trans HB5.out (bl_alloc _ _)⟩
 ·obtain ⟨h1, h4⟩ := ordT_len ho
  rw [nds_length, ← HN.out.1] at h1 h4
  have hba := bl_alloc w5 (.cells #[.slice p n c, .slice pf n cf, .slice pd n cd] 66)
  have hT5 := (HT.out.below hb5).below hba
  have cT : (w5.alloc (.cells #[.slice p n c, .slice pf n cf, .slice pd n cd] 66)).cell? ⟨w.heap.size, 1, none⟩ = some (.slice pn nn cn) := hT5.cell rfl
  have HD := lh (written_any p n c xs pf pd cf cd nn l W1.heap.size (w5.alloc (.cells #[.slice p n c, .slice pf n cf, .slice pd n cd] 66)) HN.out.1 h1 h4 hl ((HP.out.below hb5).below hba) (ownZ_below hfs hba) (ownZ_below hds hba))
  have HB5 := lh (bl_trans (bl_trans HB1.out hb5) hba)
  have HE : Hid (rightT xs nm = writtenB xs l nn) := by show _ = _; unfold rightT; rw [hs, ho, HN.out.2]; rfl
  clear ho hl hF hfs hds hb5 hba h1 h4 hs hT5
  go_wp2_with fail
  refine HD.out.mono ?_
  rintro e w6 ⟨rfl, hb6⟩
  have HB6 := lh (bl_trans HB5.out hb6)
  clear hb6
  go_wp2
  go_ret
  exact ⟨by rw [HE.out]; rfl, HB6.out⟩
def spreadT (xs : List NV) (nm : List ByteArray) : Bool := soundB xs nm && match ordT (nds xs) with
 | none => false
 | some l => spreadB xs l nm.length
theorem spreadT_any (p : Option Addr) (n c : Nat) (xs : List NV) (pn : Option Addr) (nn cn : Nat) (nm : List ByteArray) (w : World) (hn : n = xs.length) (hnm : n ≤ 1000000) (hp : SlN w p xs) (hf : Few xs) (hk : KindsIn xs) (hnn : nn = nm.length) (hnc : nn ≤ cn) (hX : SlX w pn nm) :
  Calls Tryz.prog 30 #[.agg #[.slice p n c, .slice pn nn cn]] w fun e w' => e = .returned (.bool (spreadT xs nm)) ∧ Below w.heap.size w w' := by
 obtain ⟨W1, hW1⟩ : ∃ W, W = w.alloc (.cells #[.slice p n c, .slice pn nn cn] 34) := ⟨_, rfl⟩
 have hb1 : Below w.heap.size w W1 := by rw [hW1]; exact bl_alloc _ _
 have hT : Bx W1 w.heap.size 34 #[.slice p n c, .slice pn nn cn] := by rw [hW1]; exact Bx.new w _ _
 have HO := lh (sound_any p n c xs pn nn cn nm W1 hn hnm (hp.below hb1) hf hk hnn hnc (hX.below hb1))
 have HB1 := lh hb1
 have HT := lh hT
 have HW1 := lh hW1
 have HP := lh (hp.below hb1)
 have HN := lh (And.intro hn hnn)
 clear hp hf hb1 hW1 hn hnm hk hnn hnc hX hT
 go_enter Tryz.func30, Tryz.ntmps30
 go_wp2_with fail
 rw [← HW1.out]
 refine HO.out.mono ?_
 rintro e w5 ⟨hb5, ⟨ho, a0, n0, c0, a1, n1, c1, a2, n2, c2, rfl⟩ | ⟨l, pf, cf, pd, cd, hs, ho, hl, hF, rfl, hfs, hds⟩⟩
 ·have HV : Hid (spreadT xs nm = false) := by show _ = _; unfold spreadT; rw [ho]; rfl
  have HB5 := lh (bl_trans HB1.out hb5)
  clear ho hb5
  go_wp2
  go_ret
  exact ⟨by rw [HV.out]; rfl, bl_trans HB5.out (bl_alloc _ _)⟩
 ·obtain ⟨h1, h4⟩ := ordT_len ho
  rw [nds_length, ← HN.out.1] at h1 h4
  have hba := bl_alloc w5 (.cells #[.slice p n c, .slice pf n cf, .slice pd n cd] 66)
  have hT5 := (HT.out.below hb5).below hba
  have cT : (w5.alloc (.cells #[.slice p n c, .slice pf n cf, .slice pd n cd] 66)).cell? ⟨w.heap.size, 1, none⟩ = some (.slice pn nn cn) := hT5.cell rfl
  have HD := lh (spread_any p n c xs pf pd cf cd nn l W1.heap.size (w5.alloc (.cells #[.slice p n c, .slice pf n cf, .slice pd n cd] 66)) HN.out.1 h1 h4 hl ((HP.out.below hb5).below hba) (ownZ_below hfs hba) (ownZ_below hds hba))
  have HB5 := lh (bl_trans (bl_trans HB1.out hb5) hba)
  have HE : Hid (spreadT xs nm = spreadB xs l nn) := by show _ = _; unfold spreadT; rw [hs, ho, HN.out.2]; rfl
  clear ho hl hF hfs hds hb5 hba h1 h4 hs hT5
  go_wp2_with fail
  refine HD.out.mono ?_
  rintro e w6 ⟨rfl, hb6⟩
  have HB6 := lh (bl_trans HB5.out hb6)
  clear hb6
  go_wp2
  go_ret
  exact ⟨by rw [HE.out]; rfl, HB6.out⟩
end Go.Proofs.YtkefndfgkmdphaaGreat


namespace Go.Proofs.YtkefndfgkmdphaaGreat
set_option maxHeartbeats 800000
set_option maxRecDepth 100000
open Go.RowKit Tnr Tnt

theorem ext_gz {l m : List Int} (h : l.length = m.length) (h2 : ∀ j, j < l.length → gz l j = gz m j) : l = m := by
 refine List.ext_getElem h fun i h1 h3 => ?_
 have := h2 i h1
 rw [gz_get h1, gz_get h3] at this
 exact this
theorem ext_gb {l m : List ByteArray} (h : l.length = m.length) (h2 : ∀ j, j < l.length → gb l j = gb m j) : l = m := by
 refine List.ext_getElem h fun i h1 h3 => ?_
 have := h2 i h1
 rw [gb_get h1, gb_get h3] at this
 exact this
def sameX (l m : List ByteArray) : Bool := l.map ByteArray.toList == m.map ByteArray.toList
theorem sameX_self (l : List ByteArray) : sameX l l = true := by unfold sameX; simp
theorem map_toList_inj : ∀ {l m : List ByteArray}, l.map ByteArray.toList = m.map ByteArray.toList → l = m
 | [], [], _ => rfl
 | [], _ :: _, h => by simp at h
 | _ :: _, [], h => by simp at h
 | a :: l, b :: m, h => by
  simp only [List.map_cons, List.cons.injEq] at h
  rw [ba_inj h.1, map_toList_inj h.2]
theorem sameX_no {l m : List ByteArray} (h : ¬ l = m) : sameX l m = false := by
 unfold sameX
 rw [beq_eq_false_iff_ne]
 exact fun e => h (map_toList_inj e)
theorem sameZ_any (p q : Option Addr) (c d : Nat) (l m : List Int) (w : World) (hp : SlZ w p l) (hq : SlZ w q m) (hl : l.length ≤ 4611686018427387904) (hm : m.length ≤ 4611686018427387904) :
  Calls Tryz.prog 28 #[.slice p l.length c, .slice q m.length d] w fun e w' => e = .returned (.bool (decide (l = m))) ∧ ∃ n, w.drewN n = w' := by
 by_cases hne : l.length = m.length
 ·have HP := lh hp
  have HQ := lh hq
  obtain ⟨n, hn⟩ : ∃ n, n = m.length := ⟨_, rfl⟩
  rw [← hn, show l.length = n by rw [hn]; exact hne]
  have hnI : (n : Int) ≤ 4611686018427387904 := by omega
  have HN := lh (show l.length = n ∧ m.length = n by omega)
  clear hp hq hn hne hl hm
  go_enter Tryz.func28, Tryz.ntmps28
  go_wp2
  go_loopw [5] (fun iv wr => ∃ (k r : Nat), k ≤ n ∧ iv = .int .i64 (k : Nat) ∧ Hid (∀ j, j < k → gz l j = gz m j) ∧ wr = w.drewN r) (fun iv _ => n - (intOf iv).toNat)
  case atStart => exact ⟨0, 0, Nat.zero_le _, rfl, fun j hj => by omega, rfl⟩
  case round =>
   obtain ⟨k, r, hk, rfl, HE, rfl⟩ := hrel
   by_cases hkn : k < n
   ·obtain ⟨b1, o1, rfl, hc1⟩ : ∃ b off, p = some ⟨b, off, none⟩ ∧ w.cell? ⟨b, off + k, none⟩ = some (.int .i64 (gz l k)) := by
     rcases HP.out with h | ⟨b, off, h1, h2⟩
     ·have := HN.out.1; rw [h] at this; simp at this; omega
     ·exact ⟨b, off, h1, h2 k (by have := HN.out.1; omega)⟩
    obtain ⟨b2, o2, rfl, hc2⟩ : ∃ b off, q = some ⟨b, off, none⟩ ∧ w.cell? ⟨b, off + k, none⟩ = some (.int .i64 (gz m k)) := by
     rcases HQ.out with h | ⟨b, off, h1, h2⟩
     ·have := HN.out.2; rw [h] at this; simp at this; omega
     ·exact ⟨b, off, h1, h2 k (by have := HN.out.2; omega)⟩
    have hkI : (k : Int) < n := by omega
    obtain ⟨x, hx⟩ : ∃ x, x = gz l k := ⟨_, rfl⟩
    obtain ⟨y, hy⟩ : ∃ y, y = gz m k := ⟨_, rfl⟩
    rw [← hx] at hc1
    rw [← hy] at hc2
    have HX := lh hx
    have HY := lh hy
    clear hx hy
    by_cases hxy : x = y
    ·have hb : (x != y) = false := by simpa using hxy
     have HXY := lh hxy
     clear hxy
     go_wp2
     go_quiet (fail)
     go_wp2
     go_roundw
     case rel =>
      refine ⟨k + 1, r + nq, by omega, by go_num, ?_, ?_⟩
      ·intro j hj
       by_cases e : j = k
       ·subst e; rw [← HX.out, ← HY.out]; exact HXY.out
       ·exact HE.out j (by omega)
      ·rfl
     case measure => simp [intOf]; omega
    ·have hb : (x != y) = true := by simpa using hxy
     have HXY := lh hxy
     clear hxy
     go_wp2
     go_quiet (fail)
     go_wp2
     go_ret
     have hlm : ¬ (l = m) := fun e => HXY.out (by rw [HX.out, HY.out, e])
     exact ⟨ret_bool (by rw [decide_eq_false hlm]), r + nq, by first | rfl | simp⟩
   ·have hkI : (n : Int) ≤ k := by omega
    go_wp2
    go_ret
    have hlm : l = m := ext_gz (by have := HN.out; omega) (fun j hj => HE.out j (by have := HN.out; omega))
    exact ⟨ret_bool (by rw [decide_eq_true hlm]), r, rfl⟩
 ·have hb : ((l.length : Int) != (m.length : Int)) = true := by simp; omega
  have HNE := lh hne
  clear hp hq hne
  have hlI : (l.length : Int) ≤ 4611686018427387904 := by omega
  have hmI : (m.length : Int) ≤ 4611686018427387904 := by omega
  go_enter Tryz.func28, Tryz.ntmps28
  go_wp2
  go_ret
  have hlm : ¬ (l = m) := fun e => HNE.out (by rw [e])
  exact ⟨ret_bool (by rw [decide_eq_false hlm]), 0, rfl⟩

theorem sameX_any (p q : Option Addr) (c d : Nat) (l m : List ByteArray) (w : World) (hp : SlX w p l) (hq : SlX w q m) (hl : l.length ≤ 4611686018427387904) (hm : m.length ≤ 4611686018427387904) :
  Calls Tryz.prog 81 #[.slice p l.length c, .slice q m.length d] w fun e w' => e = .returned (.bool (sameX l m)) ∧ ∃ n, w.drewN n = w' := by
 by_cases hne : l.length = m.length
 ·have HP := lh hp
  have HQ := lh hq
  obtain ⟨n, hn⟩ : ∃ n, n = m.length := ⟨_, rfl⟩
  rw [← hn, show l.length = n by rw [hn]; exact hne]
  have hnI : (n : Int) ≤ 4611686018427387904 := by omega
  have HN := lh (show l.length = n ∧ m.length = n by omega)
  clear hp hq hn hne hl hm
  go_enter Tryz.func81, Tryz.ntmps81
  go_wp2
  go_loopw [5] (fun iv wr => ∃ (k r : Nat), k ≤ n ∧ iv = .int .i64 (k : Nat) ∧ Hid (∀ j, j < k → gb l j = gb m j) ∧ wr = w.drewN r) (fun iv _ => n - (intOf iv).toNat)
  case atStart => exact ⟨0, 0, Nat.zero_le _, rfl, fun j hj => by omega, rfl⟩
  case round =>
   obtain ⟨k, r, hk, rfl, HE, rfl⟩ := hrel
   by_cases hkn : k < n
   ·obtain ⟨b1, o1, rfl, hc1⟩ : ∃ b off, p = some ⟨b, off, none⟩ ∧ w.cell? ⟨b, off + k, none⟩ = some (.string (gb l k)) := by
     rcases HP.out with h | ⟨b, off, h1, h2⟩
     ·have := HN.out.1; rw [h] at this; simp at this; omega
     ·exact ⟨b, off, h1, h2 k (by have := HN.out.1; omega)⟩
    obtain ⟨b2, o2, rfl, hc2⟩ : ∃ b off, q = some ⟨b, off, none⟩ ∧ w.cell? ⟨b, off + k, none⟩ = some (.string (gb m k)) := by
     rcases HQ.out with h | ⟨b, off, h1, h2⟩
     ·have := HN.out.2; rw [h] at this; simp at this; omega
     ·exact ⟨b, off, h1, h2 k (by have := HN.out.2; omega)⟩
    have hkI : (k : Int) < n := by omega
    obtain ⟨x, hx⟩ : ∃ x, x = gb l k := ⟨_, rfl⟩
    obtain ⟨y, hy⟩ : ∃ y, y = gb m k := ⟨_, rfl⟩
    rw [← hx] at hc1
    rw [← hy] at hc2
    have HX := lh hx
    have HY := lh hy
    clear hx hy
    by_cases hxy : x = y
    ·have hb : (x.toList == y.toList) = true := by rw [hxy]; simp
     have HXY := lh hxy
     clear hxy
     go_wp2
     go_quiet (fail)
     go_wp2
     go_roundw
     case rel =>
      refine ⟨k + 1, r + nq, by omega, by go_num, ?_, ?_⟩
      ·intro j hj
       by_cases e : j = k
       ·subst e; rw [← HX.out, ← HY.out]; exact HXY.out
       ·exact HE.out j (by omega)
      ·rfl
     case measure => simp [intOf]; omega
    ·have hb : (x.toList == y.toList) = false := by rw [beq_eq_false_iff_ne]; exact fun e => hxy (ba_inj e)
     have HXY := lh hxy
     clear hxy
     go_wp2
     go_quiet (fail)
     go_wp2
     go_ret
     have hlm : ¬ (l = m) := fun e => HXY.out (by rw [HX.out, HY.out, e])
     exact ⟨ret_bool (by rw [sameX_no hlm]), r + nq, by first | rfl | simp⟩
   ·have hkI : (n : Int) ≤ k := by omega
    go_wp2
    go_ret
    have hlm : l = m := ext_gb (by have := HN.out; omega) (fun j hj => HE.out j (by have := HN.out; omega))
    exact ⟨ret_bool (by rw [hlm, sameX_self]), r, rfl⟩
 ·have hb : ((l.length : Int) != (m.length : Int)) = true := by simp; omega
  have HNE := lh hne
  clear hp hq hne
  have hlI : (l.length : Int) ≤ 4611686018427387904 := by omega
  have hmI : (m.length : Int) ≤ 4611686018427387904 := by omega
  go_enter Tryz.func81, Tryz.ntmps81
  go_wp2
  go_ret
  have hlm : ¬ (l = m) := fun e => HNE.out (by rw [e])
  exact ⟨ret_bool (by rw [sameX_no hlm]), 0, rfl⟩

end Go.Proofs.YtkefndfgkmdphaaGreat

