/- The walks of Right and Spread. -/
import Derived.Test.YtpiknmnhcpjfaaaGreatMf
namespace Go.Proofs.YtpiknmnhcpjfaaaGreat
open Go.RowKit Tnr Tnt

def rightT (xs : List NV) (nm : List ByteArray) : Bool := soundB xs nm && match ordT (nds xs) with
  | none => false
  | some l => writtenB xs l nm.length
set_option maxHeartbeats 3200000 in
set_option maxRecDepth 100000 in
theorem rightT_any (p : Option Addr) (n c : Nat) (xs : List NV) (pn : Option Addr) (nn cn : Nat) (nm : List ByteArray) (w : World) (hn : n = xs.length) (hnm : n ≤ 1000000) (hp : SlN w p xs) (hf : Few xs) (hk : KindsIn xs) (hnn : nn = nm.length) (hnc : nn ≤ cn) (hX : SlX w pn nm) :
    Calls Tryz.prog 17 #[.agg #[.slice p n c, .slice pn nn cn]] w fun e w' => e = .returned (.bool (rightT xs nm)) ∧ Below w.heap.size w w' := by
  obtain ⟨W1, hW1⟩ : ∃ W, W = w.alloc (.cells #[.slice p n c, .slice pn nn cn] 25) := ⟨_, rfl⟩
  have hb1 : Below w.heap.size w W1 := by rw [hW1]; exact bl_alloc _ _
  have hT : Bx W1 w.heap.size 25 #[.slice p n c, .slice pn nn cn] := by rw [hW1]; exact Bx.new w _ _
  have HO := Lib.hid (sound_any p n c xs pn nn cn nm W1 hn hnm (hp.below hb1) hf hk hnn hnc (hX.below hb1))
  have HB1 := Lib.hid hb1
  have HT := Lib.hid hT
  have HW1 := Lib.hid hW1
  have HP := Lib.hid (hp.below hb1)
  have HN := Lib.hid (And.intro hn hnn)
  clear hp hf hb1 hW1 hn hnm hk hnn hnc hX hT
  go_enter Tryz.func17, Tryz.ntmps17
  go_wp2_with fail
  rw [← HW1.out]
  refine HO.out.mono ?_
  rintro e w5 ⟨hb5, ⟨ho, a0, n0, c0, a1, n1, c1, a2, n2, c2, rfl⟩ | ⟨l, pf, cf, pd, cd, hs, ho, hl, hF, rfl, hfs, hds⟩⟩
  · have HV : Hid (rightT xs nm = false) := by show _ = _; unfold rightT; rw [ho]; rfl
    have HB5 := Lib.hid (bl_trans HB1.out hb5)
    clear ho hb5
    go_wp2
    go_ret
    exact ⟨by rw [HV.out]; rfl, bl_trans HB5.out (bl_alloc _ _)⟩
  · obtain ⟨h1, h4⟩ := ordT_len ho
    rw [nds_length, ← HN.out.1] at h1 h4
    have hba := bl_alloc w5 (.cells #[.slice p n c, .slice pf n cf, .slice pd n cd] 54)
    have hT5 := (HT.out.below hb5).below hba
    have cT : (w5.alloc (.cells #[.slice p n c, .slice pf n cf, .slice pd n cd] 54)).cell? ⟨w.heap.size, 1, none⟩ = some (.slice pn nn cn) := hT5.cell rfl
    have HD := Lib.hid (written_any p n c xs pf pd cf cd nn l W1.heap.size (w5.alloc (.cells #[.slice p n c, .slice pf n cf, .slice pd n cd] 54)) HN.out.1 h1 h4 hl ((HP.out.below hb5).below hba) (ownZ_below hfs hba) (ownZ_below hds hba))
    have HB5 := Lib.hid (bl_trans (bl_trans HB1.out hb5) hba)
    have HE : Hid (rightT xs nm = writtenB xs l nn) := by show _ = _; unfold rightT; rw [hs, ho, HN.out.2]; rfl
    clear ho hl hF hfs hds hb5 hba h1 h4 hs hT5
    go_wp2_with fail
    refine HD.out.mono ?_
    rintro e w6 ⟨rfl, hb6⟩
    have HB6 := Lib.hid (bl_trans HB5.out hb6)
    clear hb6
    go_wp2
    go_ret
    exact ⟨by rw [HE.out]; rfl, HB6.out⟩
def spreadT (xs : List NV) (nm : List ByteArray) : Bool := soundB xs nm && match ordT (nds xs) with
  | none => false
  | some l => spreadB xs l nm.length
set_option maxHeartbeats 3200000 in
set_option maxRecDepth 100000 in
theorem spreadT_any (p : Option Addr) (n c : Nat) (xs : List NV) (pn : Option Addr) (nn cn : Nat) (nm : List ByteArray) (w : World) (hn : n = xs.length) (hnm : n ≤ 1000000) (hp : SlN w p xs) (hf : Few xs) (hk : KindsIn xs) (hnn : nn = nm.length) (hnc : nn ≤ cn) (hX : SlX w pn nm) :
    Calls Tryz.prog 18 #[.agg #[.slice p n c, .slice pn nn cn]] w fun e w' => e = .returned (.bool (spreadT xs nm)) ∧ Below w.heap.size w w' := by
  obtain ⟨W1, hW1⟩ : ∃ W, W = w.alloc (.cells #[.slice p n c, .slice pn nn cn] 25) := ⟨_, rfl⟩
  have hb1 : Below w.heap.size w W1 := by rw [hW1]; exact bl_alloc _ _
  have hT : Bx W1 w.heap.size 25 #[.slice p n c, .slice pn nn cn] := by rw [hW1]; exact Bx.new w _ _
  have HO := Lib.hid (sound_any p n c xs pn nn cn nm W1 hn hnm (hp.below hb1) hf hk hnn hnc (hX.below hb1))
  have HB1 := Lib.hid hb1
  have HT := Lib.hid hT
  have HW1 := Lib.hid hW1
  have HP := Lib.hid (hp.below hb1)
  have HN := Lib.hid (And.intro hn hnn)
  clear hp hf hb1 hW1 hn hnm hk hnn hnc hX hT
  go_enter Tryz.func18, Tryz.ntmps18
  go_wp2_with fail
  rw [← HW1.out]
  refine HO.out.mono ?_
  rintro e w5 ⟨hb5, ⟨ho, a0, n0, c0, a1, n1, c1, a2, n2, c2, rfl⟩ | ⟨l, pf, cf, pd, cd, hs, ho, hl, hF, rfl, hfs, hds⟩⟩
  · have HV : Hid (spreadT xs nm = false) := by show _ = _; unfold spreadT; rw [ho]; rfl
    have HB5 := Lib.hid (bl_trans HB1.out hb5)
    clear ho hb5
    go_wp2
    go_ret
    exact ⟨by rw [HV.out]; rfl, bl_trans HB5.out (bl_alloc _ _)⟩
  · obtain ⟨h1, h4⟩ := ordT_len ho
    rw [nds_length, ← HN.out.1] at h1 h4
    have hba := bl_alloc w5 (.cells #[.slice p n c, .slice pf n cf, .slice pd n cd] 54)
    have hT5 := (HT.out.below hb5).below hba
    have cT : (w5.alloc (.cells #[.slice p n c, .slice pf n cf, .slice pd n cd] 54)).cell? ⟨w.heap.size, 1, none⟩ = some (.slice pn nn cn) := hT5.cell rfl
    have HD := Lib.hid (spread_any p n c xs pf pd cf cd nn l W1.heap.size (w5.alloc (.cells #[.slice p n c, .slice pf n cf, .slice pd n cd] 54)) HN.out.1 h1 h4 hl ((HP.out.below hb5).below hba) (ownZ_below hfs hba) (ownZ_below hds hba))
    have HB5 := Lib.hid (bl_trans (bl_trans HB1.out hb5) hba)
    have HE : Hid (spreadT xs nm = spreadB xs l nn) := by show _ = _; unfold spreadT; rw [hs, ho, HN.out.2]; rfl
    clear ho hl hF hfs hds hb5 hba h1 h4 hs hT5
    go_wp2_with fail
    refine HD.out.mono ?_
    rintro e w6 ⟨rfl, hb6⟩
    have HB6 := Lib.hid (bl_trans HB5.out hb6)
    clear hb6
    go_wp2
    go_ret
    exact ⟨by rw [HE.out]; rfl, HB6.out⟩
end Go.Proofs.YtpiknmnhcpjfaaaGreat
