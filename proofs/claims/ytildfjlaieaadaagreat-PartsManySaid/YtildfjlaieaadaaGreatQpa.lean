/- Plain: the chapter's example: its classes. Of no program. -/
import Derived.Test.YtildfjlaieaadaaGreatQh

namespace Tnr

def exS : List (List R) := [[(97, 122)], [(102, 102)]]
def exL : List (List R) := [[(0, 96), (123, 1114111)], [(97, 101), (103, 122)], [(102, 102)]]
def exN (c : Int) : Nat := if c = 102 then 2 else if 97 ≤ c ∧ c ≤ 122 then 1 else 0
theorem ex_has (l h c : Int) : Has [(l, h)] c ↔ 0 ≤ c ∧ c ≤ 1114111 ∧ l ≤ c ∧ c ≤ h := by simp [Has, Cov]
theorem ex_has2 (a b l h c : Int) : Has [(a, b), (l, h)] c ↔ 0 ≤ c ∧ c ≤ 1114111 ∧ ((a ≤ c ∧ c ≤ b) ∨ (l ≤ c ∧ c ≤ h)) := by simp [Has, Cov]
theorem ex_parts : Parts exS exL := by
  refine ⟨exN, ⟨fun a b ha hb => ?_, fun c hc k hk => ?_⟩, ⟨fun c hc => ?_, fun i hi => ?_, fun i hi => ?_, fun i hi c => ?_⟩⟩
  · unfold alike exS exN
    simp only [List.mem_cons, List.not_mem_nil, or_false, forall_eq_or_imp, forall_eq, ex_has]
    have := ha.1; have := ha.2; have := hb.1; have := hb.2
    constructor
    · intro h
      constructor <;> constructor <;> intro q <;> split at h <;> split at h <;> (try split at h) <;> (try split at h) <;> omega
    · rintro ⟨h1, h2⟩
      split <;> split <;> (try split) <;> (try split) <;> omega
  · unfold exN at hk
    have := hc.1; have := hc.2
    have h0 : k = 0 ∨ k = 1 := by split at hk <;> (try split at hk) <;> omega
    rcases h0 with rfl | rfl
    · refine ⟨0, ⟨by omega, by omega⟩, ?_, by simp [exN]⟩
      split at hk <;> (try split at hk) <;> omega
    · refine ⟨97, ⟨by omega, by omega⟩, ?_, by simp [exN]⟩
      split at hk <;> (try split at hk) <;> omega
  · show exN c < 3
    unfold exN
    split <;> (try split) <;> omega
  · have hi' : i < 3 := hi
    rcases i with _ | _ | _ | i
    · exact ⟨0, ⟨by omega, by omega⟩, by simp [exN]⟩
    · exact ⟨97, ⟨by omega, by omega⟩, by simp [exN]⟩
    · exact ⟨102, ⟨by omega, by omega⟩, by simp [exN]⟩
    · omega
  · have hi' : i < 3 := hi
    rcases i with _ | _ | _ | i
    · show RF (-2) [(0, 96), (123, 1114111)]; simp [RF]
    · show RF (-2) [(97, 101), (103, 122)]; simp [RF]
    · show RF (-2) [(102, 102)]; simp [RF]
    · omega
  · have hi' : i < 3 := hi
    rcases i with _ | _ | _ | i
    · show Has [(0, 96), (123, 1114111)] c ↔ _
      rw [ex_has2]; unfold Pt exN
      split <;> (try split) <;> omega
    · show Has [(97, 101), (103, 122)] c ↔ _
      rw [ex_has2]; unfold Pt exN
      split <;> (try split) <;> omega
    · show Has [(102, 102)] c ↔ _
      rw [ex_has]; unfold Pt exN
      split <;> (try split) <;> omega
    · omega
theorem ex_few : ¬ More exS := fun h => by
  have := More.not h ex_parts
  have e : exL.length = 3 := rfl
  omega
theorem ex_class : ClsR exL 103 1 true := by
  refine .inl ⟨rfl, by decide, ?_, fun i hi => ?_⟩
  · show Has [(97, 101), (103, 122)] 103
    rw [ex_has2]; omega
  · have e : i = 0 := by omega
    subst e
    show ¬ Has [(0, 96), (123, 1114111)] 103
    rw [ex_has2]; omega
end Tnr
