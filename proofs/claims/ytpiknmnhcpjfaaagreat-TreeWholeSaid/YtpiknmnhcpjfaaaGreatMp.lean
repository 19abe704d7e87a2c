/- What Right and Spread tell, in words of plain nodes. -/
import Derived.Test.YtpiknmnhcpjfaaaGreatMo
namespace Go.Proofs.YtpiknmnhcpjfaaaGreat
open Go.RowKit Tnr Tnt

def mkN (d : Nd) : NV := ⟨d, none, 0, none, 0⟩
def kindN (d : Nd) : Bool := kindB (mkN d)
theorem kindB_nd (x : NV) : kindB x = kindN x.nd := rfl
def evN (ks : List Int) : Nat → List Nd → List (Nat × Nd)
  | _, [] => []
  | k, d :: ds => if d.kind ∈ ks then (k, d) :: evN ks (k + 1) ds else evN ks (k + 1) ds
theorem ev_nds (ks : List Int) : ∀ (xs : List NV) (k : Nat), (ev ks k xs).map (fun x => (x.1, x.2.nd)) = evN ks k (nds xs)
  | [], _ => rfl
  | x :: xs, k => by
    have h := ev_nds ks xs (k + 1)
    show (ev ks k (x :: xs)).map _ = evN ks k (x.nd :: nds xs)
    unfold ev evN
    split
    · rw [List.map_cons, h]
    · exact h
def kindsN (L : List Nd) : Bool := L.all kindN
theorem kindsB_nds (xs : List NV) : kindsB xs = kindsN (nds xs) := by
  unfold kindsB kindsN nds
  rw [List.all_map]; rfl
def allN (P : Nd → Bool) (L : List Nd) (ks : List Int) : Bool := (evN ks 0 L).all fun x => P x.2
theorem allB_nds (P : Nd → Bool) (xs : List NV) (ks : List Int) : allB P xs ks = allN P (nds xs) ks := by
  unfold allB allN
  rw [← ev_nds, List.all_map]; rfl
def plN (ks : List Int) (L : List Nd) : List Int := (evN ks 0 L).map fun x => ((x.1 : Nat) : Int)
theorem evP_nds (ks : List Int) (xs : List NV) : evP ks xs = plN ks (nds xs) := by
  unfold evP plN
  rw [← ev_nds, List.map_map]; rfl
def nN (L : List Nd) (i : Nat) : Nd := L.getD i nd0
theorem gn_nds (xs : List NV) (i : Nat) : (gn xs i).nd = nN (nds xs) i := by
  unfold gn nN nds
  rw [List.getD_eq_getElem?_getD, List.getD_eq_getElem?_getD, List.getElem?_map]
  cases xs[i]? <;> rfl
def begN (L : List Nd) (fs : List Int) : List Int := begL fs (plN [5] L)
def cntN (L : List Nd) (ps : List Int) : Bool := (List.range ps.length).all fun i => (nN L (gz ps i).toNat).group == (i : Int) + 1
def countN (L : List Nd) (fs : List Int) (nm : Nat) : Bool := cntN L (begN L fs) && (begN L fs).length == nm
theorem countB_nds (xs : List NV) (fs : List Int) (nm : Nat) : countB xs fs nm = countN (nds xs) fs nm := by
  unfold countB countN begG begN countOk cntN
  rw [evP_nds]
  simp only [gn_nds]
def writtenN (L : List Nd) (l : List (Nat × Nat)) (nm : Nat) : Bool := decide ((gf l (L.length - 1)).2 ≤ 60) && (allN neverB L [12, 13] && (countN L (fsZ l) nm && allN (upToB nm) L [8]))
theorem writtenB_nds (xs : List NV) (l : List (Nat × Nat)) (nm : Nat) : writtenB xs l nm = writtenN (nds xs) l nm := by
  unfold writtenB writtenN
  rw [allB_nds, allB_nds, countB_nds, nds_length]
def spreadN (L : List Nd) (nm : Nat) : Bool := allN (upToB nm) L [5, 8] && allN endlessB L [7]
theorem spreadB_nds (xs : List NV) (l : List (Nat × Nat)) (nm : Nat) : spreadB xs l nm = spreadN (nds xs) nm := by
  unfold spreadB spreadN
  rw [allB_nds, allB_nds]
def soundN (L : List Nd) (nm : List ByteArray) : Bool := (ordT L).isSome && (kindsN L && namedB nm)
def rightN (L : List Nd) (nm : List ByteArray) : Bool := soundN L nm && match ordT L with
  | none => false
  | some l => writtenN L l nm.length
def spreadTN (L : List Nd) (nm : List ByteArray) : Bool := soundN L nm && match ordT L with
  | none => false
  | some _ => spreadN L nm.length
theorem rightT_nds (xs : List NV) (nm : List ByteArray) : rightT xs nm = rightN (nds xs) nm := by
  unfold rightT rightN soundB soundN
  rw [kindsB_nds]
  cases ordT (nds xs) with
  | none => rfl
  | some l => simp only [writtenB_nds]
theorem spreadT_nds (xs : List NV) (nm : List ByteArray) : spreadT xs nm = spreadTN (nds xs) nm := by
  unfold spreadT spreadTN soundB soundN
  rw [kindsB_nds]
  cases ordT (nds xs) with
  | none => rfl
  | some l => simp only [spreadB_nds]
def grN (L : List Nd) : List Int := (evN [5] 0 L).map fun x => x.2.group
theorem grL_nds (xs : List NV) : grL xs = grN (nds xs) := by
  unfold grL grN
  rw [← ev_nds, List.map_map]; rfl
/-- the chapter's example. -/
def emp : ByteArray := ⟨#[]⟩
theorem named_emp : namedB [emp] = true := by
  unfold namedB
  have h1 : nameOk [emp] 0 = true := by
    unfold nameOk
    have : (gb [emp] 0).toList.isEmpty = true := by
      show (emp.toList).isEmpty = true
      rw [Go.ByteArray.toList_eq]; rfl
    rw [this]; rfl
  have h2 : (List.range [emp].length) = [0] := rfl
  rw [h2]
  simp [h1]
theorem ord_ex : ordT exT = some [(0, 1), (0, 2), (2, 1), (0, 3)] := by decide
theorem kinds_ex : kindsN exT = true := by decide
theorem pl_ex : plN [5] exT = [1] := by decide
theorem beg_ex (fs : List Int) : begN exT fs = [1] := by unfold begN begL; rw [pl_ex]; simp
theorem right_ex : rightN exT [emp] = true := by
  unfold rightN soundN writtenN countN
  rw [ord_ex, kinds_ex, named_emp]
  simp only [beg_ex]
  decide
theorem spread_ex : spreadTN exT [emp] = true := by
  unfold spreadTN soundN
  rw [ord_ex, kinds_ex, named_emp]
  decide
theorem gr_ex : grN exT = [1] := by decide
theorem kids_ex : kidsT exT = [gT, bT] := by
  unfold kidsT
  rw [ord_ex]
  decide
theorem deep_ex : deepT exT = 3 := by
  unfold deepT
  rw [ord_ex]
  decide
theorem last_ex : (nN exT 3).kids = [1, 2] := by decide
end Go.Proofs.YtpiknmnhcpjfaaaGreat
