/- The words' signs, folded or not: the program's and the document's. -/
import Derived.Test.YtgcgclmfjlecaaaGreatGrc
import Derived.Test.YtgcgclmfjlecaaaGreatGre
import Derived.Test.YtgcgclmfjlecaaaGreatGe

namespace Go.Proofs.YtgcgclmfjlecaaaGreat
open Go.RowKit Tnr

/-- what words are made of; t: are the tables right? -/
def wordsS (F : List R) (t fo : Bool) : List R := if fo = true then (if t = true then clo F wordsL else cn wordsL) else wordsL
theorem flat_w (p : Option Addr) (c : Nat) : flat [(p, c, wordsL)] = wordsL := by simp [flat]
theorem fclose_t (pf pp q : Option Addr) (cf cp cq n m k : Nat) (F : List R) (ps : List PV) (xs : List SV) (t : Bool) (w : World) (ht : t = true ↔ TR F ps) (h : Tab w pf n pp m F ps) (hx : SlS w q xs) (hk : k = xs.length) (hfl : (flat xs).length ≤ 20000000) (hkk : k ≤ 20000000) :
    Calls Tryz.prog 18 #[.agg #[.slice pf n cf, .slice pp m cp], .slice q k cq] w (Tells w (if t = true then clo F (flat xs) else cn (flat xs))) := by
  refine (fclose_any pf pp q cf cp cq n m k F ps xs w h hx hk hfl hkk).mono ?_
  rintro e w' ⟨S, hS, hT⟩
  have : S = if t = true then clo F (flat xs) else cn (flat xs) := by
    rcases hS with ⟨h1, h2⟩ | ⟨h1, h2⟩
    · rw [if_pos (ht.2 h1), h2]
    · rw [if_neg (fun h => h1 (ht.1 h)), h2]
  rw [← this]; exact hT
theorem rright_t (pf pp : Option Addr) (cf cp n m : Nat) (F : List R) (xs : List PV) (t : Bool) (w : World) (ht : t = true ↔ TR F xs) (h : Tab w pf n pp m F xs) (hpn : ∀ x ∈ xs, x.1.size ≤ 1000000000) :
    Calls Tryz.prog 33 #[.agg #[.slice pf n cf, .slice pp m cp]] w fun e w' => e = .returned (.bool t) ∧ Below w.heap.size w w' := by
  refine (rfright_any pf pp cf cp n m F xs w h hpn).mono ?_
  rintro e w' ⟨u, rfl, hu, hb⟩
  have : u = t := by
    cases u <;> cases t <;> first | rfl | exact absurd (ht.2 (hu.1 rfl)) (by decide) | exact absurd (hu.2 (ht.1 rfl)) (by decide)
  rw [this]; exact ⟨rfl, hb⟩
theorem rclose_t (pf pp q : Option Addr) (cf cp cq n m k : Nat) (F : List R) (ps : List PV) (xs : List SV) (t : Bool) (w : World) (ht : t = true ↔ TR F ps) (h : Tab w pf n pp m F ps) (hpn : ∀ x ∈ ps, x.1.size ≤ 1000000000) (hx : SlS w q xs) (hk : k = xs.length) (hfl : (flat xs).length ≤ 1200000) (hkk : k ≤ 1200000) :
    Calls Tryz.prog 23 #[.agg #[.slice pf n cf, .slice pp m cp], .slice q k cq] w (Tells w (if t = true then clo F (flat xs) else cn (flat xs))) :=
  rclose_any pf pp q cf cp cq n m k F xs t w h.fl h.fs hx hk (fun h1 => Nat.le_trans (fr_length (ht.1 h1).1) (by decide)) hfl hkk (fun h1 f hf => by
    obtain ⟨j, hj, rfl⟩ := mem_gr hf
    exact ((ht.1 h1).1.1 j hj).2) (fun W hb => rright_t pf pp cf cp n m F ps t W ht (h.below hb) hpn)

set_option maxHeartbeats 1600000 in
set_option maxRecDepth 100000 in
theorem fwords_any (pf pp : Option Addr) (cf cp n m : Nat) (F : List R) (ps : List PV) (t fo : Bool) (w : World) (ht : t = true ↔ TR F ps) (h : Tab w pf n pp m F ps) :
    Calls Tryz.prog 9 #[.agg #[.slice pf n cf, .slice pp m cp], .bool fo] w (Tells w (wordsS F t fo)) := by
  obtain ⟨w1, hw1⟩ : ∃ W, W = w.alloc (.cells #[.slice pf n cf, .slice pp m cp] 25) := ⟨_, rfl⟩
  have hb1 : Below w.heap.size w w1 := by rw [hw1]; exact bl_alloc _ _
  have hcell0 : w1.cell? ⟨w.heap.size, 0, none⟩ = some (.slice pf n cf) := by rw [hw1, World.cell?_alloc_at _ _ _ _ rfl]; rfl
  have hcell1 : w1.cell? ⟨w.heap.size, 1, none⟩ = some (.slice pp m cp) := by rw [hw1, World.cell?_alloc_at _ _ _ _ rfl]; rfl
  obtain ⟨w2, hw2⟩ : ∃ W, W = w1.alloc (.cells #[.int .i64 48, .int .i64 57, .int .i64 65, .int .i64 90, .int .i64 95, .int .i64 95, .int .i64 97, .int .i64 122] 41) := ⟨_, rfl⟩
  have hb2 : Below w1.heap.size w1 w2 := by rw [hw2]; exact bl_alloc _ _
  have hown : OwnR w2 w1.heap.size (.slice (some ⟨w1.heap.size, 0, none⟩) 4 4) wordsL := by
    rw [hw2]; exact ownR_new (Nat.le_refl _) rfl rfl (by decide)
  have hd0 := keep_cell hb2 hcell0
  have hd1 := keep_cell hb2 hcell1
  have HB := Lib.hid (bl_trans hb1 hb2)
  have HOW := Lib.hid hown
  have hs1 : w1.heap.size = w.heap.size + 1 := by rw [hw1]; simp
  have HSL : Hid (SlS (w2.alloc (.cells #[.slice (some ⟨w1.heap.size, 0, none⟩) 4 4] 28)) (some ⟨w2.heap.size, 0, none⟩) [(some ⟨w1.heap.size, 0, none⟩, 4, wordsL)]) := sls_new (fun x hx => by
    simp only [List.mem_singleton] at hx
    subst hx
    exact tells_sl (p := some ⟨w1.heap.size, 0, none⟩) (c := 4) (w := w1) hown) rfl
  have hbl := bl_alloc w2 (.cells #[.slice (some ⟨w1.heap.size, 0, none⟩) 4 4] 28)
  have h0 := (fclose_t pf pp (some ⟨w2.heap.size, 0, none⟩) cf cp 1 n m 1 F ps [(some ⟨w1.heap.size, 0, none⟩, 4, wordsL)] t _ ht ((h.below HB.out).below hbl) HSL.out rfl (by rw [flat_w]; decide) (by decide))
  rw [flat_w, show (if t = true then clo F wordsL else cn wordsL) = wordsS F t true from rfl] at h0
  have HJ := Lib.hid h0
  have HB3 := Lib.hid (bl_trans HB.out hbl)
  have hs2 : w2.heap.size = w.heap.size + 2 := by rw [hw2]; simp [hs1]
  rw [hs2, hs1, hw2, hw1] at HJ
  rw [hs1, hw2, hw1] at HB3
  rw [hs1] at HOW
  rw [hw2, hw1] at HOW hd0 hd1 HB
  clear h hb1 hb2 hcell0 hcell1 hown HSL hbl hw2 ht h0
  go_enter Tryz.func9, Tryz.ntmps9
  cases fo with
  | true =>
    generalize wordsS F t true = S at HJ ⊢
    go_wp2_with fail
    refine HJ.out.mono ?_
    rintro e w5 ⟨q5, c5, rfl, ho, hb⟩
    have HO := Lib.hid ho
    have HBB := Lib.hid hb
    clear ho hb
    go_wp2
    go_ret
    exact ⟨q5, c5, rfl, ownR_mono HO.out HB3.out.size, bl_trans HB3.out HBB.out⟩
  | false =>
    go_wp2
    go_ret
    exact ⟨some ⟨w.heap.size + 1, 0, none⟩, 4, rfl, ownR_mono HOW.out (Nat.le_succ _), HB.out⟩

set_option maxHeartbeats 1600000 in
set_option maxRecDepth 100000 in
theorem rwords_any (pf pp : Option Addr) (cf cp n m : Nat) (F : List R) (ps : List PV) (t fo : Bool) (w : World) (ht : t = true ↔ TR F ps) (h : Tab w pf n pp m F ps) (hpn : ∀ x ∈ ps, x.1.size ≤ 1000000000) :
    Calls Tryz.prog 13 #[.agg #[.slice pf n cf, .slice pp m cp], .bool fo] w (Tells w (wordsS F t fo)) := by
  obtain ⟨S, hS⟩ : ∃ S, S = wordsS F t fo := ⟨_, rfl⟩
  rw [← hS]
  have HS := Lib.hid hS
  clear hS
  obtain ⟨w1, hw1⟩ : ∃ W, W = w.alloc (.cells #[.slice pf n cf, .slice pp m cp] 25) := ⟨_, rfl⟩
  have hb1 : Below w.heap.size w w1 := by rw [hw1]; exact bl_alloc _ _
  have hc0 : w1.cell? ⟨w.heap.size, 0, none⟩ = some (.slice pf n cf) := by rw [hw1, World.cell?_alloc_at _ _ _ _ rfl]; rfl
  have hc1 : w1.cell? ⟨w.heap.size, 1, none⟩ = some (.slice pp m cp) := by rw [hw1, World.cell?_alloc_at _ _ _ _ rfl]; rfl
  have HL := Lib.hid (rlit 8 4 [48, 57, 65, 90, 95, 95, 97, 122] _ w1 rfl rfl rfl (by omega))
  have hs1 : w1.heap.size = w.heap.size + 1 := by rw [hw1]; simp
  have HT := Lib.hid (h.below hb1)
  have HB1 := Lib.hid hb1
  have HH := Lib.hid (And.intro ht hpn)
  rw [hs1, hw1] at HL
  clear h hb1 hpn ht
  go_enter Tryz.func13, Tryz.ntmps13
  go_wp2_with fail
  refine HL.out.mono ?_
  rw [← hw1]
  rintro e w2 ⟨q2, c2, he, ho, hb⟩
  have e4 : twos [48, 57, 65, 90, 95, 95, 97, 122] 4 = wordsL := rfl
  rw [e4] at he ho
  obtain rfl : e = .returned (.slice q2 4 c2) := he
  replace hc0 := keep_cell hb hc0
  replace hc1 := keep_cell hb hc1
  have HT2 := Lib.hid (HT.out.below hb)
  have HO2 := Lib.hid ho
  have HB2 := Lib.hid (bl_trans HB1.out hb)
  have HSL : Hid (SlS (w2.alloc (.cells #[.slice q2 4 c2] 28)) (some ⟨w2.heap.size, 0, none⟩) [(q2, c2, wordsL)]) := sls_new (fun x hx => by
    simp only [List.mem_singleton] at hx
    subst hx
    exact tells_sl (p := q2) (c := c2) (w := w1) ho) rfl
  have hbl := bl_alloc w2 (.cells #[.slice q2 4 c2] 28)
  have h0 := (rclose_t pf pp (some ⟨w2.heap.size, 0, none⟩) cf cp 1 n m 1 F ps [(q2, c2, wordsL)] t _ HH.out.1 (HT2.out.below hbl) HH.out.2 HSL.out rfl (by rw [flat_w]; decide) (by decide))
  rw [flat_w, show (if t = true then clo F wordsL else cn wordsL) = wordsS F t true from rfl] at h0
  have HJ := Lib.hid h0
  have HB3 := Lib.hid (bl_trans HB2.out hbl)
  have HZ1 : Hid (w.heap.size ≤ w1.heap.size) := HB1.out.size
  clear ho hb hbl HSL hw1 HL HT h0
  cases fo with
  | true =>
    have HS2 := HS.out
    rw [← HS2] at HJ
    clear HS2
    go_wp2_with fail
    refine HJ.out.mono ?_
    rintro e w5 ⟨q5, c5, rfl, ho, hb⟩
    have HO := Lib.hid ho
    have HBB := Lib.hid hb
    clear ho hb
    go_wp2
    go_ret
    exact ⟨q5, c5, rfl, ownR_mono HO.out HB3.out.size, bl_trans HB3.out HBB.out⟩
  | false =>
    go_wp2
    go_ret
    obtain rfl : S = wordsL := HS.out
    exact ⟨q2, c2, rfl, ownR_mono HO2.out HZ1.out, HB2.out⟩
end Go.Proofs.YtgcgclmfjlecaaaGreat
