/- What the listed tables give the walks: the cells of an array of structs of numbers. -/
import Derived.Test.YtalnfbbggmhbfaaDoorPg
import Derived.Test.YtalnfbbggmhbfaaDoorCards
import Derived.Test.YtalnfbbggmhbfaaDoorTie
import Derived.Lib.LaidTab
import Derived.ProofKit
import Derived.LaidMore
import Derived.OpenShut
import Derived.Stop.Joined
import Derived.ChangeMaps5
namespace Go.Proofs.YtalnfbbggmhbfaaDoor
open Go.ChangeShapes Go.WideShapes Go.ChangeAt Go.RowKit Tnd

section
variable {H : Type} {enc : TypeId × Value → H} {P : Program} {w : World} {base : Nat} {sp : Nat → Bool} {held : Bool}
def numV (z : IntKind × Int) : Value := .int z.1 z.2
def numD (z : IntKind × Int) : DataW H := .lit (.int z.1 z.2)
theorem nums_of_struct {fuel : Nat} {t : TypeId} {fs : Array Field} {cs : List Value} {zs : List (IntKind × Int)} {p : List MemPlace} (ht : P.underlying t = some (.struct fs))
    (hf : ∀ (i : Nat) (f : Field), fs[i]? = some f → ∃ k, P.underlying f.type = some (.int k) ∧ f.offset = i ∧ P.cellsOf f.type = 1) (hct : P.cellsOf t = fs.size)
    (h : DataW.trod enc P w base sp held fuel t cs = some (.agg (zs.map numD), p)) : cs = zs.map numV := by
  obtain ⟨xs, n, rfl, hx, hl, hxl, hall⟩ := DataW.trod_struct ht h
  have hxs : xs.map (·.1) = zs.map (numD (H := H)) := by
    have := congrArg Prod.fst hx
    simpa using this.symm
  have hzl : zs.length = fs.size := by
    have := congrArg List.length hxs
    simp at this
    omega
  apply List.ext_getElem?
  intro i
  by_cases hi : i < fs.size
  · obtain ⟨k, hu, ho, hc⟩ := hf i fs[i] (by simp [hi])
    have h1 := hall i fs[i] (by simp [hi])
    obtain ⟨b, hb⟩ : ∃ b, xs[i]? = some b := ⟨xs[i]'(by omega), List.getElem?_eq_getElem (by omega)⟩
    rw [hb, ho, hc] at h1
    obtain ⟨z, hcz, rfl, _⟩ := DataW.trod_int hu h1
    have h2 : cs[i]? = some (.int k z) := by
      have := congrArg (·[0]?) hcz
      simpa [List.getElem?_take, List.getElem?_drop] using this
    have h3 : (xs.map (·.1))[i]? = some (DataW.lit (.int k z) : DataW H) := by simp [hb]
    rw [hxs] at h3
    simp only [List.getElem?_map, Option.map_eq_some_iff, numD, DataW.lit.injEq, Lit.int.injEq] at h3
    obtain ⟨z', hz', rfl, rfl⟩ := h3
    simp [h2, hz', numV]
  · rw [List.getElem?_eq_none (by omega), List.getElem?_eq_none (by simp; omega)]

theorem flat_rows (m : Nat) : ∀ (rows : List (List (IntKind × Int))) (cs : List Value), cs.length = rows.length * m → (∀ i r, rows[i]? = some r → (cs.drop (i * m)).take m = r.map numV) → cs = (rows.map fun r => r.map numV).flatten := by
  intro rows
  induction rows with
  | nil => intro cs h _; simpa using h
  | cons r rows ih =>
    intro cs h hr
    have h0 := hr 0 r rfl
    rw [Nat.zero_mul, List.drop_zero] at h0
    have h1 := ih (cs.drop m) (by simp only [List.length_drop, List.length_cons, Nat.add_mul, Nat.one_mul] at h ⊢; omega) (fun i r' hi => by
      have := hr (i + 1) r' (by simpa using hi)
      rw [Nat.add_mul, Nat.one_mul] at this
      rw [List.drop_drop, Nat.add_comm]; exact this)
    rw [List.map_cons, List.flatten_cons, ← h1, ← h0, List.take_append_drop]

theorem cells_of_rows {fuel : Nat} {t e : TypeId} {n m : Nat} {fs : Array Field} {cs : List Value} {rows : List (List (IntKind × Int))} {p : List MemPlace} (ht : P.underlying t = some (.array n e)) (he : P.underlying e = some (.struct fs))
    (hf : ∀ (i : Nat) (f : Field), fs[i]? = some f → ∃ k, P.underlying f.type = some (.int k) ∧ f.offset = i ∧ P.cellsOf f.type = 1) (hce : P.cellsOf e = m) (hm : fs.size = m) (hct : P.cellsOf t = n * m) (hn : rows.length = n)
    (h : DataW.trod enc P w base sp held fuel t cs = some (.agg (rows.map fun r => .agg (r.map numD)), p)) : cs = (rows.map fun r => r.map numV).flatten := by
  cases fuel with
  | zero => simp [DataW.trod] at h
  | succ fuel =>
    simp only [DataW.trod, ht, hce] at h
    split at h
    · rename_i hl
      obtain ⟨xs, hmm, hx⟩ := Option.map_eq_some_iff.1 h
      have hds : xs.map (·.1) = rows.map fun r => (DataW.agg (r.map numD) : DataW H) := by
        have := congrArg Prod.fst hx
        simpa using this
      refine flat_rows m rows cs (by rw [hl, hct, hn]) (fun i r hr => ?_)
      have hi : i < n := by
        have := (List.getElem?_eq_some_iff.1 hr).1
        omega
      obtain ⟨b, hb, hb2⟩ := Lib.mapM_at hmm i i (by simp [hi])
      have h3 : (xs.map (·.1))[i]? = some b.1 := by simp [hb]
      rw [hds] at h3
      have h4 : b.1 = .agg (r.map numD) := by
        rw [List.getElem?_map, hr] at h3
        simpa using h3.symm
      obtain ⟨b1, b2⟩ := b
      simp only at h4
      subst h4
      exact nums_of_struct he hf (by rw [hce, hm]) hb2
    · cases h
end

/-- a struct whose fields are numbers of one cell each. -/
def numFields (P : Program) (fs : Array Field) : Bool := (List.range fs.size).all fun i => match fs[i]? with
  | some f => (match P.underlying f.type with | some (.int _) => true | _ => false) && (f.offset == i && P.cellsOf f.type == 1)
  | none => false
theorem numFields_at {P : Program} {fs : Array Field} (h : numFields P fs = true) (i : Nat) (f : Field) (hf : fs[i]? = some f) : ∃ k, P.underlying f.type = some (.int k) ∧ f.offset = i ∧ P.cellsOf f.type = 1 := by
  have hi : i < fs.size := (Array.getElem?_eq_some_iff.1 hf).1
  have h1 := List.all_eq_true.1 h i (by simp [hi])
  rw [hf] at h1
  simp only [Bool.and_eq_true, beq_iff_eq] at h1
  obtain ⟨h2, h3, h4⟩ := h1
  split at h2
  · rename_i k hk
    exact ⟨k, hk, h3, h4⟩
  · cases h2

/-- the block of a variable that reads as rows of numbers. -/
theorem heap_of_rows {P : Program} {W : World} {name : String} {g : Nat} {t e : TypeId} {n m : Nat} {fs : Array Field} {rows : List (List (IntKind × Int))} {d : DataW Unit}
    (hg : P.globalNamed name = some g) (ht0 : (P.globals[g]?).map (·.type) = some t) (ht : P.underlying t = some (.array n e)) (he : P.underlying e = some (.struct fs)) (hf : numFields P fs = true)
    (hce : P.cellsOf e = m) (hm : fs.size = m) (hct : P.cellsOf t = n * m) (hn : rows.length = n) (hd : d = .agg (rows.map fun r => .agg (r.map numD)))
    {g' : Nat} {t' : TypeId} {cs : Array Value} {enc : TypeId × Value → Unit} {base : Nat} {sp : Nat → Bool} {held : Bool} {fuel : Nat} {p : List MemPlace}
    (h1 : P.globalNamed name = some g') (h2 : (P.globals[g']?).map (·.type) = some t') (h3 : W.var? P name = some cs) (h4 : DataW.trod enc P W base sp held fuel t' cs.toList = some (d, p)) :
    ∃ T fr, W.heap[g]? = some (.cells ((rows.map fun r => r.map numV).flatten).toArray T fr) := by
  obtain rfl := Option.some.inj (hg.symm.trans h1)
  obtain rfl := Option.some.inj (ht0.symm.trans h2)
  rw [hd] at h4
  have e1 := cells_of_rows ht he (numFields_at hf) hce hm hct hn h4
  have e2 : cs = ((rows.map fun r => r.map numV).flatten).toArray := by rw [← e1]
  unfold World.var? at h3
  rw [hg] at h3
  simp only [Option.bind_some] at h3
  rcases hh : W.heap[g]? with _ | o
  · rw [hh] at h3; cases h3
  · rw [hh] at h3
    cases o with
    | cells c T fr =>
      simp only [Option.some.injEq] at h3
      exact ⟨T, fr, by rw [h3, e2]⟩
    | _ => cases h3

def leadRows : List (List (IntKind × Int)) := leads.map fun l => [(.u8, (l.low : Int)), (.u8, (l.high : Int)), (.u8, (l.mark : Int)), (.i64, (l.behind : Int)), (.u8, (l.next : Int)), (.u8, (l.last : Int))]
theorem gLeads : Tryd.prog.globalNamed "tinder/points.leads" = some 0 := by kernel_rfl
theorem tLeads : (Tryd.prog.globals[0]?).map (·.type) = some 64 := by kernel_rfl
theorem dLeads : (Rows.laid_tinder_points_leads : DataW Unit) = .agg (leadRows.map fun r => .agg (r.map numD)) := by kernel_rfl
theorem cLeads : ((leadRows.map fun r => r.map numV).flatten).toArray = leadsC := by kernel_rfl

theorem leads_of_laid {W : World} (h : laidMetH Tryd.prog [("tinder/points.leads", Rows.laid_tinder_points_leads)] W) : LeadsIn W := by
  rw [MakeChecks.laidMetH_plain _ _ _ (by kernel_rfl)] at h
  obtain ⟨ps, ⟨g, t, cs, f, p, q, h1, h2, h3, h4, _⟩, _⟩ := h
  obtain ⟨T, fr, hh⟩ := heap_of_rows gLeads tLeads Tryd.underlying64 Tryd.underlying63 (by kernel_rfl) (by kernel_rfl) rfl (by kernel_rfl) rfl dLeads h1 h2 h3 h4
  rw [cLeads] at hh
  exact ⟨T, fr, hh⟩

def sizeRows : List (List (IntKind × Int)) := [[(.i64, 127), (.u8, 0)], [(.i64, 2047), (.u8, 192)], [(.i64, 65535), (.u8, 224)], [(.i64, 1114111), (.u8, 240)]]
theorem own : ownKnob Tryd.prog.godebug = none := by kernel_rfl
theorem laidOut : laidOutB Tryd.prog = true := by kernel_rfl
end Go.Proofs.YtalnfbbggmhbfaaDoor
