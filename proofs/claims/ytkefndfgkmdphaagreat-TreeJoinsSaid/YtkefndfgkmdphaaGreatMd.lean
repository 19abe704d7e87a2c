import Derived.Test.YtkefndfgkmdphaaGreatFi
import Derived.Test.YtkefndfgkmdphaaGreatMc
import Derived.Test.YtkefndfgkmdphaaGreatLi
import Derived.Test.YtkefndfgkmdphaaGreatFl

namespace Go.Proofs.YtkefndfgkmdphaaGreat
set_option maxHeartbeats 6400000
set_option maxRecDepth 100000
open Go.RowKit Tnr Tnt

def soundB (xs : List NV) (nm : List ByteArray) : Bool := (ordT (nds xs)).isSome && (kindsB xs && namedB nm)
def SoundPost (p : Option Addr) (n c : Nat) (xs : List NV) (nm : List ByteArray) (w : World) (e : Ending) (w' : World) : Prop :=
 Below w.heap.size w w' ∧ ((soundB xs nm = false ∧ ∃ a0 n0 c0 a1 n1 c1 a2 n2 c2, e = .returned (.tuple #[.agg #[.slice a0 n0 c0, .slice a1 n1 c1, .slice a2 n2 c2], .bool false])) ∨
  ∃ l pf cf pd cd, soundB xs nm = true ∧ ordT (nds xs) = some l ∧ n = l.length ∧ FOk (gf l) n ∧ e = .returned (.tuple #[.agg #[.slice p n c, .slice pf n cf, .slice pd n cd], .bool true]) ∧ OwnZ w' w.heap.size (.slice pf n cf) (fsZ l) ∧ OwnZ w' w.heap.size (.slice pd n cd) (dsZ l))
theorem ownZ_off {w : World} {B b i : Nat} {v u : Value} {l : List Int} {T : TypeId} {cs : Array Value} (h : OwnZ w B v l) (hb : Bx w b T cs) (hT : T ≠ 3) : OwnZ (w.setCell ⟨b, i, none⟩ u) B v l :=
 World.ownsRow.kept h (show w.grownBy (w.setCell ⟨b, i, none⟩ u) (some b) from ⟨rfl, rfl, rfl, by simp, fun k _ hne => Below.heap_setCell _ _ _ k (fun e => hne (by rw [e]))⟩) (.inr (row_ne h hb hT))
theorem cell_below {W W' : World} {a : Addr} {v : Value} (h : W.cell? a = some v) (hb : Below W.heap.size W W') : W'.cell? a = some v := by rw [hb.cell (World.block_lt_of_cell? W _ h)]; exact h
theorem ks3 {w w' : World} {a0 a1 a2 : Addr} {v0 v1 v2 : Value} (h : w.cell? a0 = some v0 ∧ w.cell? a1 = some v1 ∧ w.cell? a2 = some v2) (hb : Below w.heap.size w w') : w'.cell? a0 = some v0 ∧ w'.cell? a1 = some v1 ∧ w'.cell? a2 = some v2 := ⟨cell_below h.1 hb, cell_below h.2.1 hb, cell_below h.2.2 hb⟩
theorem ks4 {w w' : World} {a0 a1 a2 a3 : Addr} {v0 v1 v2 v3 : Value} (h : w.cell? a0 = some v0 ∧ w.cell? a1 = some v1 ∧ w.cell? a2 = some v2 ∧ w.cell? a3 = some v3) (hb : Below w.heap.size w w') : w'.cell? a0 = some v0 ∧ w'.cell? a1 = some v1 ∧ w'.cell? a2 = some v2 ∧ w'.cell? a3 = some v3 := ⟨cell_below h.1 hb, cell_below h.2.1 hb, cell_below h.2.2.1 hb, cell_below h.2.2.2 hb⟩
theorem ks7 {w w' : World} {a0 a1 a2 a3 a4 a5 a6 : Addr} {v0 v1 v2 v3 v4 v5 v6 : Value} (h : w.cell? a0 = some v0 ∧ w.cell? a1 = some v1 ∧ w.cell? a2 = some v2 ∧ w.cell? a3 = some v3 ∧ w.cell? a4 = some v4 ∧ w.cell? a5 = some v5 ∧ w.cell? a6 = some v6) (hb : Below w.heap.size w w') : w'.cell? a0 = some v0 ∧ w'.cell? a1 = some v1 ∧ w'.cell? a2 = some v2 ∧ w'.cell? a3 = some v3 ∧ w'.cell? a4 = some v4 ∧ w'.cell? a5 = some v5 ∧ w'.cell? a6 = some v6 := ⟨cell_below h.1 hb, cell_below h.2.1 hb, cell_below h.2.2.1 hb, cell_below h.2.2.2.1 hb, cell_below h.2.2.2.2.1 hb, cell_below h.2.2.2.2.2.1 hb, cell_below h.2.2.2.2.2.2 hb⟩
theorem three_set {X : World} {b : Nat} (u0 u1 u2 : Value) {a : Addr} {v : Value} (h : X.cell? a = some v) (hb : a.block ≠ b) : (((X.setCell ⟨b, 0, none⟩ u0).setCell ⟨b, 1, none⟩ u1).setCell ⟨b, 2, none⟩ u2).cell? a = some v := by
 have k : ∀ (Y : World) (i : Nat) (u : Value), Y.cell? a = some v → (Y.setCell ⟨b, i, none⟩ u).cell? a = some v := fun Y i u h => (World.cell?_of_block (Below.heap_setCell Y ⟨b, i, none⟩ u a.block hb)).trans h
 exact k _ _ _ (k _ _ _ (k _ _ _ h))

theorem sound_any (p : Option Addr) (n c : Nat) (xs : List NV) (pn : Option Addr) (nn cn : Nat) (nm : List ByteArray) (w : World) (hn : n = xs.length) (hnm : n ≤ 1000000) (hp : SlN w p xs) (hf : Few xs) (hk : KindsIn xs) (hnn : nn = nm.length) (hnc : nn ≤ cn) (hX : SlX w pn nm) :
  Calls Tryz.prog 70 #[.agg #[.slice p n c, .slice pn nn cn]] w (SoundPost p n c xs nm w) := by
 obtain ⟨W2, hW2⟩ : ∃ W, W = (w.alloc (.cells #[.slice p n c, .slice pn nn cn] 34)).alloc (.cells #[.slice none 0 0, .slice none 0 0, .slice none 0 0] 66) := ⟨_, rfl⟩
 have hb2 : Below w.heap.size w W2 := by rw [hW2]; exact bl_trans (bl_alloc _ _) (bl_alloc _ _)
 have hT : Bx W2 w.heap.size 34 #[.slice p n c, .slice pn nn cn] := by rw [hW2]; exact (Bx.new w _ _).below (bl_alloc _ _)
 have hR : Bx W2 (w.heap.size + 1) 66 #[.slice none 0 0, .slice none 0 0, .slice none 0 0] := by
  have h := Bx.new (w.alloc (.cells #[.slice p n c, .slice pn nn cn] 34)) 66 #[.slice none 0 0, .slice none 0 0, .slice none 0 0]
  rw [World.size_alloc] at h; rw [hW2]; exact h
 have HO := lh (ordered_any p n c xs (.slice pn nn cn) W2 hn (by omega) (hp.below hb2) hf)
 have HB2 := lh hb2
 have HW2 := lh hW2
 have HTR := lh (And.intro hT hR)
 have HIN := lh (And.intro (hp.below hb2) (hX.below hb2))
 have HN := lh (And.intro hn (And.intro hnm (And.intro hk (And.intro hnn hnc))))
 clear hp hf hb2 hW2 hn hnm hk hnn hnc hX hT hR
 go_enter Tryz.func70, Tryz.ntmps70
 go_wp2_with fail
 rw [← HW2.out]
 refine HO.out.mono ?_
 rintro e w5 ⟨hb5, ⟨ho, a0, n0, c0, a1, n1, c1, a2, n2, c2, rfl⟩ | ⟨l, pf, cf, pd, cd, ho, hl, hF, rfl, hfs, hds⟩⟩
 ·skip
  obtain ⟨W6, hW6⟩ : ∃ W, W = w5.alloc (.cells #[.slice a0 n0 c0, .slice a1 n1 c1, .slice a2 n2 c2] 66) := ⟨_, rfl⟩
  obtain ⟨b0, hb0⟩ : ∃ b, b = w.heap.size := ⟨_, rfl⟩
  obtain ⟨bw, hbw⟩ : ∃ b, b = w5.heap.size := ⟨_, rfl⟩
  have hba : Below w5.heap.size w5 W6 := by rw [hW6]; exact bl_alloc _ _
  have hTW : Bx W6 bw 66 #[.slice a0 n0 c0, .slice a1 n1 c1, .slice a2 n2 c2] := by rw [hW6, hbw]; exact Bx.new w5 _ _
  have hT6 : Bx W6 b0 34 #[.slice p n c, .slice pn nn cn] := by rw [hb0]; exact (HTR.out.1.below hb5).below hba
  have hR6 : Bx W6 (b0 + 1) 66 #[.slice none 0 0, .slice none 0 0, .slice none 0 0] := by rw [hb0]; exact (HTR.out.2.below hb5).below hba
  have hlt : b0 + 1 < bw := by rw [hb0, hbw]; exact Nat.lt_of_lt_of_le HTR.out.2.lt hb5.size
  go_wp2
  rw [← hW6, ← hb0, ← hbw]
  have HBB := lh (And.intro hb0 (And.intro hbw hlt))
  clear hW6 hb0 hbw hlt
  refine wp_region_L (S := fun (V : World) => V.cell? ⟨bw, 0, none⟩ = some (.slice a0 n0 c0) ∧ V.cell? ⟨bw, 1, none⟩ = some (.slice a1 n1 c1) ∧ V.cell? ⟨bw, 2, none⟩ = some (.slice a2 n2 c2) ∧ V.cell? ⟨b0, 1, none⟩ = some (.slice pn nn cn)) (S2 := fun (V : World) => V.cell? ⟨bw, 0, none⟩ = some (.slice a0 n0 c0) ∧ V.cell? ⟨bw, 1, none⟩ = some (.slice a1 n1 c1) ∧ V.cell? ⟨bw, 2, none⟩ = some (.slice a2 n2 c2) ∧ V.cell? ⟨b0, 1, none⟩ = some (.slice pn nn cn)) 13 13 (by kernel_rfl) ?_
  obtain ⟨W7, hW7⟩ : ∃ W, W = W6.drew := ⟨_, rfl⟩
  have hb7 : Below W6.heap.size W6 W7 := by rw [hW7]; exact bl_drew _
  rw [← hW7]
  have hTW7 := hTW.below hb7
  have hT7 := hT6.below hb7
  have hR7 := hR6.below hb7
  have hS : (fun (V : World) => V.cell? ⟨bw, 0, none⟩ = some (.slice a0 n0 c0) ∧ V.cell? ⟨bw, 1, none⟩ = some (.slice a1 n1 c1) ∧ V.cell? ⟨bw, 2, none⟩ = some (.slice a2 n2 c2) ∧ V.cell? ⟨b0, 1, none⟩ = some (.slice pn nn cn)) W7 := ⟨hTW7.cell rfl, hTW7.cell rfl, hTW7.cell rfl, hT7.cell rfl⟩
  have hS2 := hS
  have hb25 : Below w.heap.size w w5 := HB2.out.trans (hb5.mono HB2.out.size)
  have h57 : Below w5.heap.size w5 W7 := hba.trans (hb7.mono hba.size)
  have h27 : Below W2.heap.size W2 W7 := hb5.trans (h57.mono hb5.size)
  have HBL : Hid (Below w.heap.size w W7) := hb25.trans (h57.mono hb25.size)
  clear hW7
  have HOR := lh ho
  clear ho hba hb5 hb7 hb25 h57 h27
  refine tk1 0 ⟨hS, hS2⟩ ?_
  try simp only [Act.put, sb]
  refine tk1 1 ⟨hS, hS2⟩ ?_
  try simp only [Act.put, sb]
  refine tk1 2 ⟨hS, hS2⟩ ?_
  try simp only [Act.put, sb]
  refine tu1 3 ⟨hS, hS2⟩ ?_
  try simp only [Act.put, sb]
  refine tu1 4 ⟨hS, hS2⟩ ?_
  try simp only [Act.put, sb]
  refine tu1 5 ⟨hS, hS2⟩ ?_
  try simp only [Act.put, sb]
  refine tk1 6 ⟨hS, hS2⟩ ?_
  try simp only [Act.put, sb]
  refine tk1 7 ⟨hS, hS2⟩ ?_
  try simp only [Act.put, sb]
  refine tu1 8 ⟨hS, hS2⟩ ?_
  try simp only [Act.put, sb]
  refine tu1 9 ⟨hS, hS2⟩ ?_
  try simp only [Act.put, sb]
  refine tu1 10 ⟨hS, hS2⟩ ?_
  try simp only [Act.put, sb]
  refine tk1 11 ⟨hS, hS2⟩ ?_
  try simp only [Act.put, sb]
  obtain ⟨W9, hW9⟩ : ∃ W, W = ((W7.setCell ⟨b0 + 1, 0, none⟩ (.slice a0 n0 c0)).setCell ⟨b0 + 1, 1, none⟩ (.slice a1 n1 c1)).setCell ⟨b0 + 1, 2, none⟩ (.slice a2 n2 c2) := ⟨_, rfl⟩
  have hS9 : (fun (V : World) => V.cell? ⟨bw, 0, none⟩ = some (.slice a0 n0 c0) ∧ V.cell? ⟨bw, 1, none⟩ = some (.slice a1 n1 c1) ∧ V.cell? ⟨bw, 2, none⟩ = some (.slice a2 n2 c2) ∧ V.cell? ⟨b0, 1, none⟩ = some (.slice pn nn cn)) W9 := by
   rw [hW9]
   have ne : bw ≠ b0 + 1 := by have := HBB.out.2.2; omega
   have ne0 : b0 ≠ b0 + 1 := by omega
   exact ⟨three_set _ _ _ hS.1 ne, three_set _ _ _ hS.2.1 ne, three_set _ _ _ hS.2.2.1 ne, three_set _ _ _ hS.2.2.2 ne0⟩
  have hR9 : Bx W9 (b0 + 1) 66 #[.slice a0 n0 c0, .slice a1 n1 c1, .slice a2 n2 c2] := by rw [hW9]; exact ((hR7.set 0 _).set 1 _).set 2 _
  have hb9 : Below w.heap.size W7 W9 := by
   rw [hW9]
   have := HBB.out.1
   exact (((Below.refl _ W7).setCell (p := ⟨b0 + 1, 0, none⟩) (by show _ ≤ b0 + 1; omega) _).setCell (p := ⟨b0 + 1, 1, none⟩) (by show _ ≤ b0 + 1; omega) _).setCell (p := ⟨b0 + 1, 2, none⟩) (by show _ ≤ b0 + 1; omega) _
  have HS9 := lh hS9
  have HR9 := lh hR9
  have HB9 := lh hb9
  have HW9 := lh hW9
  have g0 := hR7.cell (i := 0) rfl
  have g1 := hR7.cell (i := 1) rfl
  have g2 := hR7.cell (i := 2) rfl
  have f0 := hR7.free 0
  have f1 := hR7.free 1
  have f2 := hR7.free 2
  clear hS9 hR9 hb9 hW9 hR7
  refine aone 12 (fun K hK => ?_)
  go_simp
  rw [← HW9.out]
  refine hK.out _ _ ⟨fun _ => HS9.out, fun _ => HS9.out⟩ ?_
  clear hK K hS hS2 g0 g1 g2 f0 f1 f2
  try simp only [Act.put, sb]
  refine aone 13 (fun K hK => ?_)
  go_simp
  refine hK.out _ _ ⟨fun h => absurd h (by decide), fun h => absurd h (by decide)⟩ ?_
  clear hK K
  try simp only [Act.put, sb]
  refine anyL_done (by kernel_rfl) (show onlyN _ .normal _ _ from ?_) _
  have r0 := HR9.out.cell (i := 0) rfl
  have r1 := HR9.out.cell (i := 1) rfl
  have r2 := HR9.out.cell (i := 2) rfl
  dsimp only [onlyN]
  go_wp2
  refine bodyPost_ret (v := .tuple #[.agg #[.slice a0 n0 c0, .slice a1 n1 c1, .slice a2 n2 c2], .bool false]) (by simp [results, Tryz.results70, go_sem, r0, r1, r2]) rfl ?_
  exact ⟨HBL.out.trans HB9.out, .inl ⟨by unfold soundB; rw [HOR.out]; rfl, a0, n0, c0, a1, n1, c1, a2, n2, c2, rfl⟩⟩
 ·skip
  obtain ⟨W6, hW6⟩ : ∃ W, W = w5.alloc (.cells #[.slice p n c, .slice pf n cf, .slice pd n cd] 66) := ⟨_, rfl⟩
  obtain ⟨b0, hb0⟩ : ∃ b, b = w.heap.size := ⟨_, rfl⟩
  obtain ⟨bw, hbw⟩ : ∃ b, b = w5.heap.size := ⟨_, rfl⟩
  have hba : Below w5.heap.size w5 W6 := by rw [hW6]; exact bl_alloc _ _
  have hTW : Bx W6 bw 66 #[.slice p n c, .slice pf n cf, .slice pd n cd] := by rw [hW6, hbw]; exact Bx.new w5 _ _
  have hT6 : Bx W6 b0 34 #[.slice p n c, .slice pn nn cn] := by rw [hb0]; exact (HTR.out.1.below hb5).below hba
  have hR6 : Bx W6 (b0 + 1) 66 #[.slice none 0 0, .slice none 0 0, .slice none 0 0] := by rw [hb0]; exact (HTR.out.2.below hb5).below hba
  have hlt : b0 + 1 < bw := by rw [hb0, hbw]; exact Nat.lt_of_lt_of_le HTR.out.2.lt hb5.size
  have HL := lh hl
  have HOL := lh (And.intro ho (And.intro hl hF))
  have HOF := lh (And.intro hfs hds)
  clear ho hl hF hfs hds
  go_wp2
  rw [← hW6, ← hb0, ← hbw]
  have HBB := lh (And.intro hb0 (And.intro hbw hlt))
  clear hW6 hb0 hbw hlt
  refine wp_region_L (S := fun (V : World) => V.cell? ⟨bw, 0, none⟩ = some (.slice p n c) ∧ V.cell? ⟨bw, 1, none⟩ = some (.slice pf n cf) ∧ V.cell? ⟨bw, 2, none⟩ = some (.slice pd n cd) ∧ V.cell? ⟨b0, 1, none⟩ = some (.slice pn nn cn)) (S2 := fun (V : World) => V.cell? ⟨bw, 0, none⟩ = some (.slice p n c) ∧ V.cell? ⟨bw, 1, none⟩ = some (.slice pf n cf) ∧ V.cell? ⟨bw, 2, none⟩ = some (.slice pd n cd) ∧ V.cell? ⟨b0, 1, none⟩ = some (.slice pn nn cn)) 13 13 (by kernel_rfl) ?_
  obtain ⟨W7, hW7⟩ : ∃ W, W = W6.drew := ⟨_, rfl⟩
  have hb7 : Below W6.heap.size W6 W7 := by rw [hW7]; exact bl_drew _
  rw [← hW7]
  have hTW7 := hTW.below hb7
  have hT7 := hT6.below hb7
  have hR7 := hR6.below hb7
  have hS : (fun (V : World) => V.cell? ⟨bw, 0, none⟩ = some (.slice p n c) ∧ V.cell? ⟨bw, 1, none⟩ = some (.slice pf n cf) ∧ V.cell? ⟨bw, 2, none⟩ = some (.slice pd n cd) ∧ V.cell? ⟨b0, 1, none⟩ = some (.slice pn nn cn)) W7 := ⟨hTW7.cell rfl, hTW7.cell rfl, hTW7.cell rfl, hT7.cell rfl⟩
  have hS2 := hS
  have hb25 : Below w.heap.size w w5 := HB2.out.trans (hb5.mono HB2.out.size)
  have h57 : Below w5.heap.size w5 W7 := hba.trans (hb7.mono hba.size)
  have h27 : Below W2.heap.size W2 W7 := hb5.trans (h57.mono hb5.size)
  have HBL : Hid (Below w.heap.size w W7) := hb25.trans (h57.mono hb25.size)
  clear hW7
  have HKD := lh (kinded_any p n c xs W7 HN.out.1 HN.out.2.1 (HIN.out.1.below h27) HN.out.2.2.1)
  have HNM0 : Hid (∀ V, Below W7.heap.size W7 V → Calls Tryz.prog 120 #[.slice pn nn cn] V fun e w' => e = .returned (.bool (namedB nm)) ∧ Below V.heap.size V w') := fun V hV => named_any pn nn cn nm V HN.out.2.2.2.1 HN.out.2.2.2.2 ((HIN.out.2.below h27).below hV)
  have HOW : Hid (OwnZ W7 w.heap.size (.slice pf n cf) (fsZ l) ∧ OwnZ W7 w.heap.size (.slice pd n cd) (dsZ l)) := ⟨ownZ_down (ownZ_below HOF.out.1 h57) HB2.out.size, ownZ_down (ownZ_below HOF.out.2 h57) HB2.out.size⟩
  obtain ⟨kb, hkb⟩ : ∃ b : Bool, b = kindsB xs := ⟨_, rfl⟩
  obtain ⟨nb, hnb⟩ : ∃ b : Bool, b = namedB nm := ⟨_, rfl⟩
  rw [← hkb] at HKD
  rw [← hnb] at HNM0
  have HKB : Hid (kindsB xs = kb) := hkb.symm
  have HNB : Hid (namedB nm = nb) := hnb.symm
  clear hkb hnb h57 h27 hba hb5 hb7 hb25
  cases kb with
  | false =>
   refine tk1 0 ⟨hS, hS2⟩ ?_
   try simp only [Act.put, sb]
   refine tk1 1 ⟨hS, hS2⟩ ?_
   try simp only [Act.put, sb]
   refine tk1 2 ⟨hS, hS2⟩ ?_
   try simp only [Act.put, sb]
   refine tk1 3 ⟨hS, hS2⟩ ?_
   try simp only [Act.put, sb]
   refine tk1 4 ⟨hS, hS2⟩ ?_
   try simp only [Act.put, sb]
   refine aone 5 (fun K hK => ?_)
   go_simp
   refine (HKD.out).mono ?_
   rintro e w8 ⟨rfl, hbw8⟩
   have hSw8 := ks4 hS hbw8
   refine hK.out _ _ ⟨fun _ => hSw8, fun _ => hSw8⟩ ?_
   clear hK K hS hS2
   have hS := hSw8
   have hS2 := hSw8
   clear hSw8
   try simp only [Act.put, sb]
   have hR8 := hR7.below hbw8
   have HB8 := lh (hbw8.mono HBL.out.size)
   refine tk1 6 ⟨hS, hS2⟩ ?_
   try simp only [Act.put, sb]
   refine tk1 7 ⟨hS, hS2⟩ ?_
   try simp only [Act.put, sb]
   refine tu1 8 ⟨hS, hS2⟩ ?_
   try simp only [Act.put, sb]
   refine tu1 9 ⟨hS, hS2⟩ ?_
   try simp only [Act.put, sb]
   refine tu1 10 ⟨hS, hS2⟩ ?_
   try simp only [Act.put, sb]
   refine tk1 11 ⟨hS, hS2⟩ ?_
   try simp only [Act.put, sb]
   obtain ⟨W9, hW9⟩ : ∃ W, W = ((w8.setCell ⟨b0 + 1, 0, none⟩ (.slice p n c)).setCell ⟨b0 + 1, 1, none⟩ (.slice pf n cf)).setCell ⟨b0 + 1, 2, none⟩ (.slice pd n cd) := ⟨_, rfl⟩
   have hS9 : (fun (V : World) => V.cell? ⟨bw, 0, none⟩ = some (.slice p n c) ∧ V.cell? ⟨bw, 1, none⟩ = some (.slice pf n cf) ∧ V.cell? ⟨bw, 2, none⟩ = some (.slice pd n cd) ∧ V.cell? ⟨b0, 1, none⟩ = some (.slice pn nn cn)) W9 := by
    rw [hW9]
    have ne : bw ≠ b0 + 1 := by have := HBB.out.2.2; omega
    have ne0 : b0 ≠ b0 + 1 := by omega
    exact ⟨three_set _ _ _ hS.1 ne, three_set _ _ _ hS.2.1 ne, three_set _ _ _ hS.2.2.1 ne, three_set _ _ _ hS.2.2.2 ne0⟩
   have hR9 : Bx W9 (b0 + 1) 66 #[.slice p n c, .slice pf n cf, .slice pd n cd] := by rw [hW9]; exact ((hR8.set 0 _).set 1 _).set 2 _
   have hb9 : Below w.heap.size w8 W9 := by
    rw [hW9]
    have := HBB.out.1
    exact (((Below.refl _ w8).setCell (p := ⟨b0 + 1, 0, none⟩) (by show _ ≤ b0 + 1; omega) _).setCell (p := ⟨b0 + 1, 1, none⟩) (by show _ ≤ b0 + 1; omega) _).setCell (p := ⟨b0 + 1, 2, none⟩) (by show _ ≤ b0 + 1; omega) _
   have HS9 := lh hS9
   have HR9 := lh hR9
   have HB9 := lh hb9
   have HW9 := lh hW9
   have g0 := hR8.cell (i := 0) rfl
   have g1 := hR8.cell (i := 1) rfl
   have g2 := hR8.cell (i := 2) rfl
   have f0 := hR8.free 0
   have f1 := hR8.free 1
   have f2 := hR8.free 2
   clear hS9 hR9 hb9 hW9 hR8
   refine aone 12 (fun K hK => ?_)
   go_simp
   rw [← HW9.out]
   refine hK.out _ _ ⟨fun _ => HS9.out, fun _ => HS9.out⟩ ?_
   clear hK K hS hS2 g0 g1 g2 f0 f1 f2
   try simp only [Act.put, sb]
   refine aone 13 (fun K hK => ?_)
   go_simp
   refine hK.out _ _ ⟨fun h => absurd h (by decide), fun h => absurd h (by decide)⟩ ?_
   clear hK K
   try simp only [Act.put, sb]
   refine anyL_done (by kernel_rfl) (show onlyN _ .normal _ _ from ?_) _
   have r0 := HR9.out.cell (i := 0) rfl
   have r1 := HR9.out.cell (i := 1) rfl
   have r2 := HR9.out.cell (i := 2) rfl
   dsimp only [onlyN]
   go_wp2
   refine bodyPost_ret (v := .tuple #[.agg #[.slice p n c, .slice pf n cf, .slice pd n cd], .bool false]) (by simp [results, Tryz.results70, go_sem, r0, r1, r2]) rfl ?_
   exact ⟨(HBL.out.trans HB8.out).trans HB9.out, .inl ⟨by unfold soundB; rw [HKB.out]; simp, p, n, c, pf, n, cf, pd, n, cd, rfl⟩⟩
  | true =>
   cases nb with
   | false =>
    refine tk1 0 ⟨hS, hS2⟩ ?_
    try simp only [Act.put, sb]
    refine tk1 1 ⟨hS, hS2⟩ ?_
    try simp only [Act.put, sb]
    refine tk1 2 ⟨hS, hS2⟩ ?_
    try simp only [Act.put, sb]
    refine tk1 3 ⟨hS, hS2⟩ ?_
    try simp only [Act.put, sb]
    refine tk1 4 ⟨hS, hS2⟩ ?_
    try simp only [Act.put, sb]
    refine aone 5 (fun K hK => ?_)
    go_simp
    refine (HKD.out).mono ?_
    rintro e w8 ⟨rfl, hbw8⟩
    have hSw8 := ks4 hS hbw8
    refine hK.out _ _ ⟨fun _ => hSw8, fun _ => hSw8⟩ ?_
    clear hK K hS hS2
    have hS := hSw8
    have hS2 := hSw8
    clear hSw8
    try simp only [Act.put, sb]
    have hR8 := hR7.below hbw8
    have HB8 := lh (hbw8.mono HBL.out.size)
    refine tk1 6 ⟨hS, hS2⟩ ?_
    try simp only [Act.put, sb]
    refine tk1 7 ⟨hS, hS2⟩ ?_
    try simp only [Act.put, sb]
    refine tk1 8 ⟨hS, hS2⟩ ?_
    try simp only [Act.put, sb]
    refine tk1 9 ⟨hS, hS2⟩ ?_
    try simp only [Act.put, sb]
    have HNM := lh (HNM0.out w8 hbw8)
    refine aone 10 (fun K hK => ?_)
    go_simp
    refine (HNM.out).mono ?_
    rintro e w10 ⟨rfl, hbw10⟩
    have hSw10 := ks4 hS hbw10
    refine hK.out _ _ ⟨fun _ => hSw10, fun _ => hSw10⟩ ?_
    clear hK K hS hS2
    have hS := hSw10
    have hS2 := hSw10
    clear hSw10
    try simp only [Act.put, sb]
    have hR10 := hR8.below hbw10
    have HB10 := lh (hbw10.mono (HBL.out.trans HB8.out).size)
    refine tk1 11 ⟨hS, hS2⟩ ?_
    try simp only [Act.put, sb]
    obtain ⟨W9, hW9⟩ : ∃ W, W = ((w10.setCell ⟨b0 + 1, 0, none⟩ (.slice p n c)).setCell ⟨b0 + 1, 1, none⟩ (.slice pf n cf)).setCell ⟨b0 + 1, 2, none⟩ (.slice pd n cd) := ⟨_, rfl⟩
    have hS9 : (fun (V : World) => V.cell? ⟨bw, 0, none⟩ = some (.slice p n c) ∧ V.cell? ⟨bw, 1, none⟩ = some (.slice pf n cf) ∧ V.cell? ⟨bw, 2, none⟩ = some (.slice pd n cd) ∧ V.cell? ⟨b0, 1, none⟩ = some (.slice pn nn cn)) W9 := by
     rw [hW9]
     have ne : bw ≠ b0 + 1 := by have := HBB.out.2.2; omega
     have ne0 : b0 ≠ b0 + 1 := by omega
     exact ⟨three_set _ _ _ hS.1 ne, three_set _ _ _ hS.2.1 ne, three_set _ _ _ hS.2.2.1 ne, three_set _ _ _ hS.2.2.2 ne0⟩
    have hR9 : Bx W9 (b0 + 1) 66 #[.slice p n c, .slice pf n cf, .slice pd n cd] := by rw [hW9]; exact ((hR10.set 0 _).set 1 _).set 2 _
    have hb9 : Below w.heap.size w10 W9 := by
     rw [hW9]
     have := HBB.out.1
     exact (((Below.refl _ w10).setCell (p := ⟨b0 + 1, 0, none⟩) (by show _ ≤ b0 + 1; omega) _).setCell (p := ⟨b0 + 1, 1, none⟩) (by show _ ≤ b0 + 1; omega) _).setCell (p := ⟨b0 + 1, 2, none⟩) (by show _ ≤ b0 + 1; omega) _
    have HS9 := lh hS9
    have HR9 := lh hR9
    have HB9 := lh hb9
    have HW9 := lh hW9
    have g0 := hR10.cell (i := 0) rfl
    have g1 := hR10.cell (i := 1) rfl
    have g2 := hR10.cell (i := 2) rfl
    have f0 := hR10.free 0
    have f1 := hR10.free 1
    have f2 := hR10.free 2
    clear hS9 hR9 hb9 hW9 hR10
    refine aone 12 (fun K hK => ?_)
    go_simp
    rw [← HW9.out]
    refine hK.out _ _ ⟨fun _ => HS9.out, fun _ => HS9.out⟩ ?_
    clear hK K hS hS2 g0 g1 g2 f0 f1 f2
    try simp only [Act.put, sb]
    refine aone 13 (fun K hK => ?_)
    go_simp
    refine hK.out _ _ ⟨fun h => absurd h (by decide), fun h => absurd h (by decide)⟩ ?_
    clear hK K
    try simp only [Act.put, sb]
    refine anyL_done (by kernel_rfl) (show onlyN _ .normal _ _ from ?_) _
    have r0 := HR9.out.cell (i := 0) rfl
    have r1 := HR9.out.cell (i := 1) rfl
    have r2 := HR9.out.cell (i := 2) rfl
    dsimp only [onlyN]
    go_wp2
    refine bodyPost_ret (v := .tuple #[.agg #[.slice p n c, .slice pf n cf, .slice pd n cd], .bool false]) (by simp [results, Tryz.results70, go_sem, r0, r1, r2]) rfl ?_
    exact ⟨((HBL.out.trans HB8.out).trans HB10.out).trans HB9.out, .inl ⟨by unfold soundB; rw [HNB.out]; simp, p, n, c, pf, n, cf, pd, n, cd, rfl⟩⟩
   | true =>
    refine tk1 0 ⟨hS, hS2⟩ ?_
    try simp only [Act.put, sb]
    refine tk1 1 ⟨hS, hS2⟩ ?_
    try simp only [Act.put, sb]
    refine tk1 2 ⟨hS, hS2⟩ ?_
    try simp only [Act.put, sb]
    refine tk1 3 ⟨hS, hS2⟩ ?_
    try simp only [Act.put, sb]
    refine tk1 4 ⟨hS, hS2⟩ ?_
    try simp only [Act.put, sb]
    refine aone 5 (fun K hK => ?_)
    go_simp
    refine (HKD.out).mono ?_
    rintro e w8 ⟨rfl, hbw8⟩
    have hSw8 := ks4 hS hbw8
    refine hK.out _ _ ⟨fun _ => hSw8, fun _ => hSw8⟩ ?_
    clear hK K hS hS2
    have hS := hSw8
    have hS2 := hSw8
    clear hSw8
    try simp only [Act.put, sb]
    have hR8 := hR7.below hbw8
    have HB8 := lh (hbw8.mono HBL.out.size)
    refine tk1 6 ⟨hS, hS2⟩ ?_
    try simp only [Act.put, sb]
    refine tk1 7 ⟨hS, hS2⟩ ?_
    try simp only [Act.put, sb]
    refine tk1 8 ⟨hS, hS2⟩ ?_
    try simp only [Act.put, sb]
    refine tk1 9 ⟨hS, hS2⟩ ?_
    try simp only [Act.put, sb]
    have HNM := lh (HNM0.out w8 hbw8)
    refine aone 10 (fun K hK => ?_)
    go_simp
    refine (HNM.out).mono ?_
    rintro e w10 ⟨rfl, hbw10⟩
    have hSw10 := ks4 hS hbw10
    refine hK.out _ _ ⟨fun _ => hSw10, fun _ => hSw10⟩ ?_
    clear hK K hS hS2
    have hS := hSw10
    have hS2 := hSw10
    clear hSw10
    try simp only [Act.put, sb]
    have hR10 := hR8.below hbw10
    have HB10 := lh (hbw10.mono (HBL.out.trans HB8.out).size)
    have HO10 := lh (And.intro (ownZ_below (ownZ_below HOW.out.1 hbw8) hbw10) (ownZ_below (ownZ_below HOW.out.2 hbw8) hbw10))
    refine tk1 11 ⟨hS, hS2⟩ ?_
    try simp only [Act.put, sb]
    obtain ⟨W9, hW9⟩ : ∃ W, W = ((w10.setCell ⟨b0 + 1, 0, none⟩ (.slice p n c)).setCell ⟨b0 + 1, 1, none⟩ (.slice pf n cf)).setCell ⟨b0 + 1, 2, none⟩ (.slice pd n cd) := ⟨_, rfl⟩
    have hS9 : (fun (V : World) => V.cell? ⟨bw, 0, none⟩ = some (.slice p n c) ∧ V.cell? ⟨bw, 1, none⟩ = some (.slice pf n cf) ∧ V.cell? ⟨bw, 2, none⟩ = some (.slice pd n cd) ∧ V.cell? ⟨b0, 1, none⟩ = some (.slice pn nn cn)) W9 := by
     rw [hW9]
     have ne : bw ≠ b0 + 1 := by have := HBB.out.2.2; omega
     have ne0 : b0 ≠ b0 + 1 := by omega
     exact ⟨three_set _ _ _ hS.1 ne, three_set _ _ _ hS.2.1 ne, three_set _ _ _ hS.2.2.1 ne, three_set _ _ _ hS.2.2.2 ne0⟩
    have hR9 : Bx W9 (b0 + 1) 66 #[.slice p n c, .slice pf n cf, .slice pd n cd] := by rw [hW9]; exact ((hR10.set 0 _).set 1 _).set 2 _
    have hb9 : Below w.heap.size w10 W9 := by
     rw [hW9]
     have := HBB.out.1
     exact (((Below.refl _ w10).setCell (p := ⟨b0 + 1, 0, none⟩) (by show _ ≤ b0 + 1; omega) _).setCell (p := ⟨b0 + 1, 1, none⟩) (by show _ ≤ b0 + 1; omega) _).setCell (p := ⟨b0 + 1, 2, none⟩) (by show _ ≤ b0 + 1; omega) _
    have HO9 : Hid (OwnZ W9 w.heap.size (.slice pf n cf) (fsZ l) ∧ OwnZ W9 w.heap.size (.slice pd n cd) (dsZ l)) := by
     have k : ∀ {v : Value} {q : List Int}, OwnZ w10 w.heap.size v q → OwnZ W9 w.heap.size v q := fun h => by
      rw [hW9]; exact ownZ_off (ownZ_off (ownZ_off h hR10 (by decide)) (hR10.set 0 _) (by decide)) ((hR10.set 0 _).set 1 _) (by decide)
     exact ⟨k HO10.out.1, k HO10.out.2⟩
    have HS9 := lh hS9
    have HR9 := lh hR9
    have HB9 := lh hb9
    have HW9 := lh hW9
    have g0 := hR10.cell (i := 0) rfl
    have g1 := hR10.cell (i := 1) rfl
    have g2 := hR10.cell (i := 2) rfl
    have f0 := hR10.free 0
    have f1 := hR10.free 1
    have f2 := hR10.free 2
    clear hS9 hR9 hb9 hW9 hR10
    refine aone 12 (fun K hK => ?_)
    go_simp
    rw [← HW9.out]
    refine hK.out _ _ ⟨fun _ => HS9.out, fun _ => HS9.out⟩ ?_
    clear hK K hS hS2 g0 g1 g2 f0 f1 f2
    try simp only [Act.put, sb]
    refine aone 13 (fun K hK => ?_)
    go_simp
    refine hK.out _ _ ⟨fun h => absurd h (by decide), fun h => absurd h (by decide)⟩ ?_
    clear hK K
    try simp only [Act.put, sb]
    refine anyL_done (by kernel_rfl) (show onlyN _ .normal _ _ from ?_) _
    have r0 := HR9.out.cell (i := 0) rfl
    have r1 := HR9.out.cell (i := 1) rfl
    have r2 := HR9.out.cell (i := 2) rfl
    dsimp only [onlyN]
    go_wp2
    refine bodyPost_ret (v := .tuple #[.agg #[.slice p n c, .slice pf n cf, .slice pd n cd], .bool true]) (by simp [results, Tryz.results70, go_sem, r0, r1, r2]) rfl ?_
    exact ⟨((HBL.out.trans HB8.out).trans HB10.out).trans HB9.out, .inr ⟨l, pf, cf, pd, cd, by unfold soundB; rw [HOL.out.1, HKB.out, HNB.out]; rfl, HOL.out.1, HOL.out.2.1, HOL.out.2.2, rfl, HO9.out.1, HO9.out.2⟩⟩
end Go.Proofs.YtkefndfgkmdphaaGreat
