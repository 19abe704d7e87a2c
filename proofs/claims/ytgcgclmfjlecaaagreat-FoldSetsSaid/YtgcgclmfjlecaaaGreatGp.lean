/- Plain: what is closed: the sets, and the From and the To of each fold whose To is met. -/
import Derived.Test.YtgcgclmfjlecaaaGreatRa

namespace Go.Proofs.YtgcgclmfjlecaaaGreat
open Tnr

/-- the Tos that are met. -/
def toks (F A : List R) : List Int := (F.filter fun f => hasB A f.1 || hasB A f.2).map (·.2)
/-- the Froms of these. -/
def froms (F A : List R) : List Int := (F.filter fun f => decide (f.2 ∈ toks F A)).map (·.1)
def clo (F A : List R) : List R := cn (A ++ pts (toks F A ++ froms F A))
theorem hasB_iff {l : List R} {c : Int} : hasB l c = true ↔ Has l c := by unfold hasB; exact decide_eq_true_iff
theorem mem_toks {F A : List R} {c : Int} : c ∈ toks F A ↔ ∃ f ∈ F, (Has A f.1 ∨ Has A f.2) ∧ f.2 = c := by
  unfold toks
  simp only [List.mem_map, List.mem_filter, Bool.or_eq_true, hasB_iff]
  constructor
  · rintro ⟨f, ⟨h1, h2⟩, h3⟩; exact ⟨f, h1, h2, h3⟩
  · rintro ⟨f, h1, h2, h3⟩; exact ⟨f, ⟨h1, h2⟩, h3⟩
theorem mem_froms {F A : List R} {c : Int} : c ∈ froms F A ↔ ∃ f ∈ F, f.2 ∈ toks F A ∧ f.1 = c := by
  unfold froms
  simp only [List.mem_map, List.mem_filter, decide_eq_true_iff]
  constructor
  · rintro ⟨f, ⟨h1, h2⟩, h3⟩; exact ⟨f, h1, h2, h3⟩
  · rintro ⟨f, h1, h2, h3⟩; exact ⟨f, ⟨h1, h2⟩, h3⟩
theorem clo_right (F A : List R) : Rt (clo F A) := cn_right _
theorem clo_has (F A : List R) (c : Int) : Has (clo F A) c ↔ Has A c ∨ (0 ≤ c ∧ c ≤ 1114111 ∧ (c ∈ toks F A ∨ c ∈ froms F A)) := by
  unfold clo
  rw [cn_has, has_append, pts_has, List.mem_append]
/-- whatever list has just these, with the sets, is what is closed. -/
theorem clo_of {F A L : List R} (h : ∀ c, Has L c ↔ Has A c ∨ (0 ≤ c ∧ c ≤ 1114111 ∧ (c ∈ toks F A ∨ c ∈ froms F A))) : cn L = clo F A := by
  unfold clo
  rw [cn_eq]
  intro c
  rw [h c, has_append, pts_has, List.mem_append]
/-- the sets once joined are closed to the same. -/
theorem toks_cn (F A : List R) : toks F (cn A) = toks F A := by
  unfold toks
  congr 1
  apply List.filter_congr
  intro f _
  rw [hasB_eq (cn_has A f.1), hasB_eq (cn_has A f.2)]
theorem froms_cn (F A : List R) : froms F (cn A) = froms F A := by
  unfold froms; rw [toks_cn]
theorem clo_cn (F A : List R) : clo F (cn A) = clo F A := by
  refine (clo_of (L := cn A ++ pts (toks F (cn A) ++ froms F (cn A))) fun c => ?_)
  rw [has_append, cn_has, pts_has, toks_cn, froms_cn, List.mem_append]
/-- a set without folds is itself, put right. -/
theorem clo_nil (A : List R) : clo [] A = cn A := by
  symm
  refine clo_of fun c => ?_
  simp [toks, froms]
end Go.Proofs.YtgcgclmfjlecaaaGreat
