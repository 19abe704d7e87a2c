/- The walks of minus, one, Of, and of a number's end. -/
import Derived.Test.YtcahnkocfbcchaaGreatDoorWe

namespace Go.Proofs.YtcahnkocfbcchaaGreatDoor
open Go.RowKit Tnd

set_option maxRecDepth 100000 in
theorem minus_any (nb B : Nat) (l ys : List Nat) (p : Option Addr) (cy : Nat) (w : World)
    (hn : Num w nb B l) (hBn : B ≤ nb) (hy : Old w B p ys) (hys : Digs 4294967296 ys) (hle : nv 4294967296 ys ≤ nv 4294967296 l) (hlen : ys.length ≤ l.length)
    (hl : l.length ≤ 100000000000) :
    Calls Tryz.prog 32 #[.pointer (some ⟨nb, 0, none⟩), .slice p ys.length cy] w fun e w' =>
      e = .returned (.tuple #[]) ∧ Below B w w' ∧ ∃ l', Num w' nb B l' ∧ nv 4294967296 l' = nv 4294967296 l - nv 4294967296 ys ∧ l'.length = l.length := by
  obtain ⟨s, hv, hown, hdig⟩ := hn
  obtain ⟨p1, c1, rfl⟩ : ∃ p1 c1, s = .slice p1 l.length c1 := by
    obtain ⟨p1, c1, hs1, _⟩ := own_form hown
    exact ⟨p1, c1, hs1⟩
  have hal := along_own 66 sub_enters subF (fun c => c ≤ 1) sub_step (by omega) B p1 c1 l p ys cy w hown hdig hy hys (by omega) (by omega)
  have hd := subF_diff l ys hlen hdig hys hle
  have hc := cell_of_one hv
  have HV := Lib.hid hv
  have HO := Lib.hid hown
  have HNE := Lib.hid (own_ne hown hv (by decide))
  have HAL := Lib.hid hal
  have HD := Lib.hid hd
  clear hv hown hal hd hy hys hdig
  go_enter Tryz.func32, Tryz.ntmps32
  go_wp2_with fail
  refine HAL.out.mono ?_
  rintro e w2 ⟨cr, hcr, rfl, hg2, ho2⟩
  have HG2 := Lib.hid hg2
  have HO2 := Lib.hid ho2
  clear hcr hg2 ho2
  go_wp2
  go_end0
  refine ⟨rfl, ⟨HG2.out.os, HG2.out.tape, HG2.out.output, HG2.out.size, fun k hk => HG2.out.block k (by have := lt_of_block HV.out; omega) (fun e => by have := (HO.out.lt k e.symm).1; omega)⟩, _, ⟨_, ?_, HO2.out, HD.out.2⟩, HD.out.1, alongF_length _ _ _ _⟩
  rw [HG2.out.block nb (lt_of_block HV.out) (fun e => HNE.out e.symm)]
  exact HV.out

theorem own_lit (w : World) (B : Nat) (l : List Nat) (b : Nat) (hb : b = w.heap.size) (hB : B ≤ b) (hl : l.length ≤ 1000) :
    Own (w.alloc (.cells (l.map fun d => Value.int .u32 (d : Nat)).toArray 46)) B 46 .u32 (.slice (some ⟨b, 0, none⟩) l.length l.length) l := by
  have h := World.ownsRow_lit (base := B) (e := 46) (size := 1) w (l.map fun d => Value.int .u32 (d : Nat)).toArray l.length (by omega) (by simp only [maxLen]; omega) (by simp)
  subst hb
  unfold Own
  simpa using h

theorem one_any (w : World) :
    Calls Tryz.prog 50 #[] w fun e w' => ∃ p c, e = .returned (.agg #[.slice p 1 c]) ∧ Own w' w.heap.size 46 .u32 (.slice p 1 c) [1] ∧ Below w.heap.size w w' := by
  go_enter Tryz.func50, Tryz.ntmps50
  go_wp2
  refine bodyPost_ret (v := .agg #[.slice (some ⟨w.heap.size + 1, 0, none⟩) 1 1]) (by simp [results, Tryz.results50, go_sem]) rfl ?_
  exact ⟨_, _, rfl, own_lit _ w.heap.size [1] (w.heap.size + 1) (by simp) (by omega) (by simp), ((Below.refl _ _).alloc (Nat.le_refl _) _).alloc (by simp) _⟩

theorem of_any (n : Nat) (w : World) (hn : n < 18446744073709551616) :
    Calls Tryz.prog 18 #[.int .u64 (n : Nat)] w fun e w' => ∃ v, e = .returned v ∧ FNat w' w.heap.size v n ∧ Below w.heap.size w w' := by
  have hO : Own ((w.alloc (.cells #[.slice none 0 0] 24)).alloc (.cells #[.int .u32 ((n : Int) % 4294967296), .int .u32 ((n : Int) / 4294967296)] 46)) w.heap.size 46 .u32 (.slice (some ⟨w.heap.size + 1, 0, none⟩) 2 2) [n % 4294967296, n / 4294967296] := by
    have h := own_lit (w.alloc (.cells #[.slice none 0 0] 24)) w.heap.size [n % 4294967296, n / 4294967296] (w.heap.size + 1) (by simp) (by omega) (by simp)
    have e1 : ((n % 4294967296 : Nat) : Int) = (n : Int) % 4294967296 := by omega
    have e2 : ((n / 4294967296 : Nat) : Int) = (n : Int) / 4294967296 := by omega
    simp only [List.map_cons, List.map_nil, e1, e2] at h
    exact h
  have hd : Digs 4294967296 [n % 4294967296, n / 4294967296] := by
    intro d hd
    simp only [List.mem_cons, List.not_mem_nil, or_false] at hd
    omega
  have hnat := nat_any w.heap.size _ _ _ hO hd (by simp; omega) (by simp)
  have hv : nv 4294967296 [n % 4294967296, n / 4294967296] = n := by simp only [nv]; omega
  rw [hv] at hnat
  have HN := Lib.hid hnat
  clear hO hd hnat hv
  go_enter Tryz.func18, Tryz.ntmps18
  go_wp2_with fail
  refine HN.out.mono ?_
  rintro e w' ⟨v, rfl, hf, hb⟩
  obtain ⟨rp, rc, rl, hv, hrest⟩ := hf
  have hR : w'.heap[w.heap.size]? = some (.cells #[.slice none 0 0] 24 (0, 0)) := by
    rw [hb.block w.heap.size (by simp; omega), Below.heap_alloc _ _ _ (by simp)]
    exact heap_alloc_new w _
  have hc := cell_of_one hR
  have hf := free_of_one hR
  have HB := Lib.hid hb
  have HR := Lib.hid hR
  have HF : Hid (FNat w' w.heap.size v n) := ⟨rp, rc, rl, hv, hrest⟩
  clear hrest hb hR
  subst hv
  go_wp2
  refine bodyPost_ret (v := .agg #[.slice rp rl.length rc]) (by simp [results, Tryz.results18, go_sem, hc]) rfl ?_
  refine ⟨_, rfl, HF.out.setCell HR.out (by decide) _, ?_⟩
  exact ((((Below.refl _ _).alloc (Nat.le_refl _) _).alloc (by simp) _).trans (HB.out.mono (by simp; omega))).setCell (by simp) _
end Go.Proofs.YtcahnkocfbcchaaGreatDoor
