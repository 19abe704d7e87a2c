/- Maps of rows of numbers: a row of one's own laid at a key; a look-up that says whether the key is there; what the map has, as a function. Of no program. -/
import Derived.Maps.OwnRows
import Derived.Maps.OwnSet
import Derived.Maps.Views
import Derived.Maps.RangeWalk

namespace Go
open Go.Maps Go.WideElems Go.MapKept Go.RowKit Go.ChangeShapes

section
variable {H : Type} {P : Program} {k : TypeId} {w : World} {base : Nat} {e : TypeId} {q : IntKind} {b n : Nat} {D : DataW H}

theorem World.ownsGroups.mono {m : Nat} (h : w.ownsGroups P k base e q b n D) (hm : n ≤ m) : w.ownsGroups P k base e q b m D := by
  obtain ⟨es, clock, hb, F, hs, hD, hbb, hlen, hap⟩ := h
  exact ⟨es, clock, hb, F, Nat.le_trans hs hm, hD, hbb, fun x hx zs hz => Nat.le_trans (hlen x hx zs hz) hm, hap⟩
theorem World.ownsGroups.map (h : w.ownsGroups P k base e q b n D) : w.ownsMap P k (rowElem w base e q) b n D := by
  obtain ⟨es, clock, hb, F, hs, hD, _⟩ := h
  exact ⟨es, clock, hb, F, hs, hD⟩
theorem World.ownsGroups.backNil {t E : TypeId} {key : Value} {kl : Lit} (h : w.ownsGroups P k base e q b n D) (K : Keyed P k) (ht : P.underlying t = some (.map k E)) (hn : n < maxLen) (hkey : keyOf P k key = some kl) :
    w.groupBack P t k base e q b n D key kl (.slice none 0 0) := by
  obtain ⟨es, clock, hb, F, hs, rfl, hbb, hlen, hap⟩ := h
  refine groups_back K ht hb F hs hn hbb hlen hap hkey (fun x _ _ => ?_) (by simp [Value.ownBlock])
  cases x.val.ownBlock <;> simp [Value.ownBlock]
theorem World.ownsGroups.askNo {t E : TypeId} {key : Value} {kl : Lit} (h : w.ownsGroups P k base e q b n D) (K : Keyed P k) (ht : P.underlying t = some (.map k E)) (hz : (zeroValue E).run P w = .ok (.slice none 0 0) w) (hkey : keyOf P k key = some kl) (hh : Maps.has D kl = false) :
    (Instr.lookup t (.map (some b)) key true).run P w = .ok (.tuple #[.slice none 0 0, .bool false]) w := by
  obtain ⟨es, clock, hb, F, hs, rfl, hbb, hlen, hap⟩ := h
  rcases Maps.fit_look true K ht hz hb F hkey with ⟨hrun, _, _⟩ | ⟨e0, y, hm0, h3, hrun, hR, hat, _⟩
  · exact hrun
  · rw [has_true_of_atKey hat] at hh; cases hh
theorem World.ownsGroups.askYes {t E : TypeId} {key : Value} {kl : Lit} (h : w.ownsGroups P k base e q b n D) (K : Keyed P k) (ht : P.underlying t = some (.map k E)) (hz : (zeroValue E).run P w = .ok (.slice none 0 0) w) (hn : n < maxLen) (hkey : keyOf P k key = some kl) (hh : Maps.has D kl = true) :
    ∃ v zs, (Instr.lookup t (.map (some b)) key true).run P w = .ok (.tuple #[v, .bool true]) w ∧ D.atKey kl .nil = rowDatum q v zs ∧ w.ownsInts base e q v zs ∧ zs.length ≤ n ∧ w.groupBack P t k base e q b n D key kl v := by
  obtain ⟨es, clock, hb, F, hs, rfl, hbb, hlen, hap⟩ := h
  rcases Maps.fit_look true K ht hz hb F hkey with ⟨_, _, hat⟩ | ⟨e0, y, hm0, h3, hrun, hR, hat, _⟩
  · rw [has_false_of_atKey hat] at hh; cases hh
  · obtain ⟨zs, ho, rfl⟩ := rowElem_inv hR
    refine ⟨e0.val, zs, hrun, hat _, ho, hlen e0 hm0 zs ho, groups_back K ht hb F hs hn hbb hlen hap hkey (fun x hx hne => hap x hx e0 hm0 (by rw [h3]; exact hne)) (fun e1 => ?_)⟩
    have := (ho.1.lt b e1).1
    omega
theorem World.ownsGroups.keptNew {w' : World} (h : w.ownsGroups P k base e q b n D) (hg : w.grownBy w' none) : w'.ownsGroups P k base e q b n D := by
  obtain ⟨es, clock, hb, F, hs, rfl, hbb, hlen, hap⟩ := h
  have hblt : b < w.heap.size := (Array.getElem?_eq_some_iff.1 hb).1
  have hst : ∀ x ∈ es.toList, ∀ z, rowElem (H := H) w base e q x.val = some z → rowElem w' base e q x.val = some z := fun x hx z hz => by
    obtain ⟨zs, ho, rfl⟩ := rowElem_inv hz
    exact rowElem_mk (ho.kept hg (by cases x.val.ownBlock <;> simp))
  obtain ⟨F1, hmap, _⟩ := F.stay hst
  refine ⟨es, clock, (hg.block b hblt (by simp)).trans hb, F1, hs, by rw [hmap], hbb, fun x hx zs ho => ?_, hap⟩
  obtain ⟨y, hy⟩ := F.reads x hx
  obtain ⟨z, hz, _⟩ := rd_val hy
  obtain ⟨zs0, ho0, _⟩ := rowElem_inv hz
  rw [ho.unique (ho0.kept hg (by cases x.val.ownBlock <;> simp))]
  exact hlen x hx zs0 ho0
theorem grown_of_below {w w' : World} (h : Below w.heap.size w w') : w.grownBy w' none := by
  exact ⟨h.os, h.tape, h.output, h.size, fun i hi _ => h.block i hi⟩

end

section
variable {H : Type} {P : Program} (w : World) {ops : Array Oper} {rest : List Oper} {o : Oper} {a : Act} {Q : Exit → Act → World → Prop}

theorem wpList_ask_no {H : Type} (hg : o.guard = none) (m x : Operand) (t : TypeId) (hop : o.op = Op.lookup t m x true)
    (k E e : TypeId) (q : IntKind) (K : Keyed P k) (ht : P.underlying t = some (.map k E)) (hz : (zeroValue E).run P w = .ok (.slice none 0 0) w) (base b n : Nat) (D : DataW H)
    (hm : a.eval m = .map (some b)) (hown : w.ownsGroups P k base e q b n D) (key : Value) (kl : Lit) (hx : a.eval x = key) (hkey : keyOf P k key = some kl) (hh : Maps.has D kl = false)
    (hK : wpList P ops Q rest (a.put o.dst (.tuple #[.slice none 0 0, .bool false])) w) :
    wpList P ops Q (o :: rest) a w := by
  refine wpList_plain hg fun K' hK' => ?_
  unfold Oper.wp
  simp [execOp, hop, hm, hx, hown.askNo K ht hz hkey hh, Result.andThen]
  exact hK' _ _ hK
theorem wpList_ask_yes {H : Type} (hg : o.guard = none) (m x : Operand) (t : TypeId) (hop : o.op = Op.lookup t m x true)
    (k E e : TypeId) (q : IntKind) (K : Keyed P k) (ht : P.underlying t = some (.map k E)) (hz : (zeroValue E).run P w = .ok (.slice none 0 0) w) (base b n : Nat) (D : DataW H)
    (hm : a.eval m = .map (some b)) (hown : w.ownsGroups P k base e q b n D) (hn : n < maxLen) (key : Value) (kl : Lit) (hx : a.eval x = key) (hkey : keyOf P k key = some kl) (hh : Maps.has D kl = true)
    (hK : ∀ v zs, D.atKey kl .nil = rowDatum q v zs → w.ownsInts base e q v zs → zs.length ≤ n → w.groupBack P t k base e q b n D key kl v → wpList P ops Q rest (a.put o.dst (.tuple #[v, .bool true])) w) :
    wpList P ops Q (o :: rest) a w := by
  refine wpList_plain hg fun K' hK' => ?_
  obtain ⟨v, zs, hrun, h1, h2, h3, h4⟩ := hown.askYes K ht hz hn hkey hh
  unfold Oper.wp
  simp [execOp, hop, hm, hx, hrun, Result.andThen]
  exact hK' _ _ (hK v zs h1 h2 h3 h4)

theorem key_i64 (c : Int) : WideAt.IsKeyLit (.int .i64 c) := by simp [WideAt.IsKeyLit]
structure DG (D : DataW Unit) (g : Int → List Int) : Prop where
  im : IsMap D
  hs : ∀ c, Maps.has D (.int .i64 c) = !(g c).isEmpty
  at' : ∀ c, g c ≠ [] → D.atKey (.int .i64 c) .nil = .slice (lits .i64 (g c)) []
theorem DG.empty : DG (.map []) (fun _ => []) := ⟨isMap_empty, fun _ => rfl, fun _ h => absurd rfl h⟩
theorem DG.put {D : DataW Unit} {g : Int → List Int} (h : DG D g) (y : Int) {zs : List Int} (hz : zs ≠ []) : DG (D.put (.int .i64 y) (.slice (lits .i64 zs) [])) (fun c => if c = y then zs else g c) := by
  refine ⟨h.im.put _ _, fun c => ?_, fun c hc => ?_⟩
  · by_cases e : c = y
    · subst e
      rw [has_put_same h.im (key_i64 _)]
      simp [hz]
    · rw [has_put_other (by intro h; cases h; exact e rfl), h.hs]
      simp [e]
  · by_cases e : c = y
    · subst e
      rw [atKey_put_same h.im (key_i64 _)]
      simp
    · rw [atKey_put_other (by intro h; cases h; exact e rfl)]
      simp only [e, if_false] at hc ⊢
      exact h.at' c hc
theorem DG.same {D : DataW Unit} {g g' : Int → List Int} (h : DG D g) (e : ∀ c, g' c = g c) : DG D g' := by
  have : g' = g := funext e
  rw [this]; exact h
theorem lits_inj {q : IntKind} {a b : List Int} (h : (lits q a : List (DataW Unit)) = lits q b) : a = b := by
  unfold lits at h
  exact (List.map_inj_right (fun x y hxy => by cases hxy; rfl)).1 h
theorem DG.row {D : DataW Unit} {g : Int → List Int} (h : DG D g) {c : Int} (hc : g c ≠ []) {v : Value} {zs : List Int} (hv : D.atKey (.int .i64 c) .nil = rowDatum .i64 v zs) {w : World} {base : Nat} {e : TypeId} (ho : w.ownsInts base e .i64 v zs) : zs = g c := by
  rw [h.at' c hc] at hv
  rcases ho.datum (H := Unit) with ⟨h1, _⟩ | h1
  · rw [h1] at hv; cases hv
  · rw [h1] at hv
    simp only [DataW.slice.injEq, and_true] at hv
    exact (lits_inj hv).symm
end
end Go
