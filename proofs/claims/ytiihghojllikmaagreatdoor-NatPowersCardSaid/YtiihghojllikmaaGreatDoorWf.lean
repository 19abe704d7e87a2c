/- The walks of minus, one, Of, and of a number's end. -/
import Derived.Test.YtiihghojllikmaaGreatDoorWe
namespace Go.Proofs.YtiihghojllikmaaGreatDoor
open Go.RowKit Tnd

theorem own_lit (w : World) (B : Nat) (l : List Nat) (b : Nat) (hb : b = w.heap.size) (hB : B ≤ b) (hl : l.length ≤ 1000) :
    Own (w.alloc (.cells (l.map fun d => Value.int .u32 (d : Nat)).toArray 46)) B 46 .u32 (.slice (some ⟨b, 0, none⟩) l.length l.length) l := by
  have h := World.ownsRow_lit (base := B) (e := 46) (size := 1) w (l.map fun d => Value.int .u32 (d : Nat)).toArray l.length (by omega) (by simp only [maxLen]; omega) (by simp)
  subst hb
  unfold Own
  simpa using h

theorem one_any (w : World) :
    Calls Tryz.prog 50 #[] w fun e w' => ∃ p c, e = .returned (.agg #[.slice p 1 c]) ∧ Own w' w.heap.size 46 .u32 (.slice p 1 c) [1] ∧ Below w.heap.size w w' := by
  go_enter Tryz.func50, Tryz.ntmps50
  go_wp2
  refine bodyPost_ret (v := .agg #[.slice (some ⟨w.heap.size + 1, 0, none⟩) 1 1]) (by simp [results, Tryz.results50, go_sem]) rfl ?_
  exact ⟨_, _, rfl, own_lit _ w.heap.size [1] (w.heap.size + 1) (by simp) (by omega) (by simp), ((Below.refl _ _).alloc (Nat.le_refl _) _).alloc (by simp) _⟩

theorem of_any (n : Nat) (w : World) (hn : n < 18446744073709551616) :
    Calls Tryz.prog 18 #[.int .u64 (n : Nat)] w fun e w' => ∃ v, e = .returned v ∧ FNat w' w.heap.size v n ∧ Below w.heap.size w w' := by
  have hO : Own ((w.alloc (.cells #[.slice none 0 0] 24)).alloc (.cells #[.int .u32 ((n : Int) % 4294967296), .int .u32 ((n : Int) / 4294967296)] 46)) w.heap.size 46 .u32 (.slice (some ⟨w.heap.size + 1, 0, none⟩) 2 2) [n % 4294967296, n / 4294967296] := by
    have h := own_lit (w.alloc (.cells #[.slice none 0 0] 24)) w.heap.size [n % 4294967296, n / 4294967296] (w.heap.size + 1) (by simp) (by omega) (by simp)
    have e1 : ((n % 4294967296 : Nat) : Int) = (n : Int) % 4294967296 := by omega
    have e2 : ((n / 4294967296 : Nat) : Int) = (n : Int) / 4294967296 := by omega
    simp only [List.map_cons, List.map_nil, e1, e2] at h
    exact h
  have hd : Digs 4294967296 [n % 4294967296, n / 4294967296] := by
    intro d hd
    simp only [List.mem_cons, List.not_mem_nil, or_false] at hd
    omega
  have hnat := nat_any w.heap.size _ _ _ hO hd (by simp; omega) (by simp)
  have hv : nv 4294967296 [n % 4294967296, n / 4294967296] = n := by simp only [nv]; omega
  rw [hv] at hnat
  have HN := Lib.hid hnat
  clear hO hd hnat hv
  go_enter Tryz.func18, Tryz.ntmps18
  go_wp2_with fail
  refine HN.out.mono ?_
  rintro e w' ⟨v, rfl, hf, hb⟩
  obtain ⟨rp, rc, rl, hv, hrest⟩ := hf
  have hR : w'.heap[w.heap.size]? = some (.cells #[.slice none 0 0] 24 (0, 0)) := by
    rw [hb.block w.heap.size (by simp; omega), Below.heap_alloc _ _ _ (by simp)]
    exact heap_alloc_new w _
  have hc := cell_of_one hR
  have hf := free_of_one hR
  have HB := Lib.hid hb
  have HR := Lib.hid hR
  have HF : Hid (FNat w' w.heap.size v n) := ⟨rp, rc, rl, hv, hrest⟩
  clear hrest hb hR
  subst hv
  go_wp2
  refine bodyPost_ret (v := .agg #[.slice rp rl.length rc]) (by simp [results, Tryz.results18, go_sem, hc]) rfl ?_
  refine ⟨_, rfl, HF.out.setCell HR.out (by decide) _, ?_⟩
  exact ((((Below.refl _ _).alloc (Nat.le_refl _) _).alloc (by simp) _).trans (HB.out.mono (by simp; omega))).setCell (by simp) _
end Go.Proofs.YtiihghojllikmaaGreatDoor
