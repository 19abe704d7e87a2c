/- Rows joined: numbers, ranges, nodes; the walks of copied at ranges and at numbers. -/
import Derived.Test.YtafiekelcoaadaaGreatLb

namespace Go.Proofs.YtafiekelcoaadaaGreat
open Go.RowKit Tnr Tnt

theorem enc_one2 {a : List R} : ∀ u ∈ a.flatMap encR, Value.oneCell' u = true := by
  intro u hu
  rw [List.mem_flatMap] at hu
  obtain ⟨d, _, hd⟩ := hu
  unfold encR at hd
  simp only [List.mem_cons, List.not_mem_nil, or_false] at hd
  rcases hd with rfl | rfl <;> rfl
theorem encN_one {a : List NV} : ∀ u ∈ a.flatMap encN, Value.oneCell' u = true := by
  intro u hu
  rw [List.mem_flatMap] at hu
  obtain ⟨d, _, hd⟩ := hu
  unfold encN at hd
  simp only [List.mem_cons, List.not_mem_nil, or_false] at hd
  rcases hd with rfl | rfl | rfl | rfl | rfl | rfl | rfl | rfl | rfl <;> rfl
/-- append of a row that lies somewhere onto one of the call's own. -/
theorem run_joinX {Ts T ty : TypeId} {i0 : TypeInfo} {z : Value} {size bytes : Nat} (ht : Tryz.prog.underlying Ts = some (.slice T)) (hi : Tryz.prog.info? T = some i0) (hz : i0.zero = some z) (hsz : i0.size = size) (hby : i0.bytes = bytes) (hzs : z.cells.size = size) (h0 : 0 < size) (hb88 : bytes ≤ 88)
    {w : World} {B n m cq : Nat} {v : Value} {xs news : List Value} {q : Option Addr} (ho : w.ownsRow B T size v n xs) (hl : news.length = m * size) (hs : m = 0 ∨ ∃ b off, q = some ⟨b, off, none⟩ ∧ ∀ j u, news[j]? = some u → w.cell? ⟨b, off + j, none⟩ = some u) (hq : q = none → cq = 0)
    (h1 : ∀ u ∈ news, u.oneCell' = true) (hlim : n + m ≤ 1000000000000) (hB : B ≤ w.heap.size) :
    ∃ v' w', (Builtin.append_ #[Ts, Ts] ty #[v, .slice q m cq]).run Tryz.prog w = .ok v' w' ∧ w'.ownsRow B T size v' (n + m) (xs ++ news) ∧ w.grownBy w' v.ownBlock := by
  cases q with
  | none =>
    have := hq rfl
    subst this
    have hm : m = 0 := by
      rcases hs with h | ⟨b, off, h, _⟩
      · exact h
      · cases h
    subst hm
    have hn : news = [] := List.eq_nil_of_length_eq_zero (by omega)
    subst hn
    have hrun := run_append_owned_none (P := Tryz.prog) (w := w) B Ts ty T i0 size ht hi v n xs ho
    exact ⟨v, w, hrun, by rw [List.append_nil]; exact ho, World.grownBy.refl _ _⟩
  | some ad =>
    have hn : ∀ j u, news[j]? = some u → w.cell? (ad.add j) = some u := by
      rcases hs with h | ⟨b, off, h, hc⟩
      · subst h
        have hn : news = [] := List.eq_nil_of_length_eq_zero (by omega)
        subst hn; intro j u hu; simp at hu
      · simp only [Option.some.injEq] at h
        subst h
        intro j u hu
        have e : (⟨b, off, none⟩ : Addr).add j = ⟨b, off + j, none⟩ := by simp [Addr.add]
        rw [e]; exact hc j u hu
    have hbb : (n + m) * bytes ≤ 140737488355328 := by
      have : (n + m) * bytes ≤ (n + m) * 88 := Nat.mul_le_mul_left _ hb88
      omega
    obtain ⟨v', w', h1, h2, h3, _⟩ := run_append_own (P := Tryz.prog) (w := w) B Ts ty T i0 z size bytes ht hi hz hsz hby hzs h0 v n xs ho ad m cq news hl hn h1 (by simp only [maxLen]; omega) hbb hB
    exact ⟨v', w', h1, h2, h3⟩
theorem slr_news {w : World} {p : Option Addr} {l : List R} (h : SlR w p l) : l.length = 0 ∨ ∃ b off, p = some ⟨b, off, none⟩ ∧ ∀ j u, (l.flatMap encR)[j]? = some u → w.cell? ⟨b, off + j, none⟩ = some u := by
  rcases h with h | ⟨b, off, h1, h2⟩
  · left; rw [h]; rfl
  · refine .inr ⟨b, off, h1, fun j u hu => ?_⟩
    have hj : j < l.length * 2 := by rw [← encs_length]; exact (List.getElem?_eq_some_iff.1 hu).1
    obtain ⟨e1, e2⟩ := encs_at l (j / 2) (by omega)
    obtain ⟨c1, c2⟩ := h2 (j / 2) (by omega)
    rcases Nat.mod_two_eq_zero_or_one j with hm | hm
    · have e : j = j / 2 * 2 := by omega
      rw [e] at hu ⊢
      rw [hu] at e1; rw [Option.some.inj e1]; exact c1
    · have e : j = j / 2 * 2 + 1 := by omega
      rw [e] at hu ⊢
      rw [hu] at e2; rw [Option.some.inj e2]; exact c2
theorem slz_news {w : World} {p : Option Addr} {l : List Int} (h : SlZ w p l) : l.length = 0 ∨ ∃ b off, p = some ⟨b, off, none⟩ ∧ ∀ j u, (l.map (Value.int .i64))[j]? = some u → w.cell? ⟨b, off + j, none⟩ = some u := by
  rcases h with h | ⟨b, off, h1, h2⟩
  · left; rw [h]; rfl
  · refine .inr ⟨b, off, h1, fun j u hu => ?_⟩
    rw [List.getElem?_map] at hu
    obtain ⟨x, hx, rfl⟩ := Option.map_eq_some_iff.1 hu
    have hj := (List.getElem?_eq_some_iff.1 hx).1
    rw [h2 j hj, gz_get hj, (List.getElem?_eq_some_iff.1 hx).2]
theorem sln_news {w : World} {p : Option Addr} {l : List NV} (h : SlN w p l) : l.length = 0 ∨ ∃ b off, p = some ⟨b, off, none⟩ ∧ ∀ j u, (l.flatMap encN)[j]? = some u → w.cell? ⟨b, off + j, none⟩ = some u := by
  rcases h.cells with h | ⟨b, off, h1, h2⟩
  · left; rw [h]; rfl
  · refine .inr ⟨b, off, h1, fun j u hu => ?_⟩
    have hj : j < l.length * 9 := by rw [← encN_length]; exact (List.getElem?_eq_some_iff.1 hu).1
    have hi : j / 9 < l.length := by omega
    have e : j = j / 9 * 9 + j % 9 := by omega
    have hr : j % 9 < 9 := Nat.mod_lt _ (by decide)
    obtain ⟨c0, c1, c2, c3, c4, c5, c6, c7, c8⟩ := h2 (j / 9) hi
    rw [e] at hu ⊢
    rw [encN_at l _ _ hi hr] at hu
    generalize hrr : j % 9 = r at hu hr ⊢
    rw [← Nat.add_assoc]
    match r, hr with
    | 0, _ => rw [← Option.some.inj hu]; exact c0
    | 1, _ => rw [← Option.some.inj hu]; exact c1
    | 2, _ => rw [← Option.some.inj hu]; exact c2
    | 3, _ => rw [← Option.some.inj hu]; exact c3
    | 4, _ => rw [← Option.some.inj hu]; exact c4
    | 5, _ => rw [← Option.some.inj hu]; exact c5
    | 6, _ => rw [← Option.some.inj hu]; exact c6
    | 7, _ => rw [← Option.some.inj hu]; exact c7
    | 8, _ => rw [← Option.some.inj hu]; exact c8
theorem int_one {a : List Int} : ∀ u ∈ a.map (Value.int .i64), Value.oneCell' u = true := by
  intro u hu
  obtain ⟨x, _, rfl⟩ := List.mem_map.1 hu
  rfl

/-- an append, guarded or not, whose run is known. -/
theorem wpList_append_run {P : Program} {w w' : World} {ops : Array Oper} {rest : List Oper} {o : Oper} {a : Act} {Q : Exit → Act → World → Prop} (hw : Region.wanted o (yielded ops a.tmps) = true) (s x : Operand) (t : TypeId)
    (ho : o.op = .call { callee := .builtin .append, args := #[s, x], argTypes := #[t, t] }) (v u v' : Value) (hs : a.eval s = v) (hx : a.eval x = u)
    (hrun : (Builtin.append_ #[t, t] o.type #[v, u]).run P w = .ok v' w') (h : wpList P ops Q rest (a.put o.dst v') w') : wpList P ops Q (o :: rest) a w := by
  refine wpList_step fun K hK => ?_
  simp only [hw, if_true]
  unfold Oper.wp
  simp [execOp, ho, resolve, invoke, builtin, hs, hx, hrun, Result.andThen]
  exact hK _ _ h


set_option maxHeartbeats 800000 in
set_option maxRecDepth 100000 in
theorem copyR_any (p : Option Addr) (c n : Nat) (l : List R) (w : World) (hn : n = l.length) (hp : SlR w p l) (hpn : p = none → c = 0) (hl : l.length ≤ 1000000000) :
    Calls Tryz.prog 60 #[.slice p n c] w fun e w' => ∃ q d, e = .returned (.slice q n d) ∧ OwnR w' w.heap.size (.slice q n d) l ∧ Below w.heap.size w w' := by
  obtain ⟨i0, hinf, hz0, hz1, hz2⟩ := info_parts info_range
  obtain ⟨v', w', hrun, hown, hg⟩ := run_joinX (Ts := 35) (ty := 35) Tryz.underlying35 hinf hz0 hz1 hz2 rfl (by decide) (by decide) (ownR_nil w w.heap.size) (encs_length l) (slr_news hp) hpn enc_one2 (by simp; omega) (Nat.le_refl _)
  have ho : OwnR w' w.heap.size v' l := by unfold OwnR; simpa using hown
  obtain ⟨q, d, rfl, _⟩ := ownR_form ho
  rw [← hn] at hrun ho
  have HO := Lib.hid ho
  have HB := Lib.hid ((Below.refl w.heap.size w).grown hg (Nat.le_refl _) (by simp [Value.ownBlock]))
  have HRUN := Lib.hid hrun
  clear hrun hown hg hp hpn hn hl ho
  go_enter Tryz.func60, Tryz.ntmps60
  go_wp2_with (at_builtin; refine wpList_append_run (by rfl) _ _ 35 rfl _ _ _ rfl rfl HRUN.out ?_)
  go_ret
  exact ⟨q, d, rfl, HO.out, HB.out⟩
set_option maxHeartbeats 800000 in
set_option maxRecDepth 100000 in
theorem copyZ_any (p : Option Addr) (c n : Nat) (l : List Int) (w : World) (hn : n = l.length) (hp : SlZ w p l) (hpn : p = none → c = 0) (hl : l.length ≤ 1000000000) :
    Calls Tryz.prog 90 #[.slice p n c] w fun e w' => ∃ q d, e = .returned (.slice q n d) ∧ OwnZ w' w.heap.size (.slice q n d) l ∧ Below w.heap.size w w' := by
  obtain ⟨i0, hinf, hz0, hz1, hz2⟩ := info_parts info_intz
  obtain ⟨v', w', hrun, hown, hg⟩ := run_joinX (Ts := 36) (ty := 36) Tryz.underlying36 hinf hz0 hz1 hz2 rfl (by decide) (by decide) (ownZ_nil w w.heap.size) (by simp) (slz_news hp) hpn int_one (by simp; omega) (Nat.le_refl _)
  have ho : OwnZ w' w.heap.size v' l := by unfold OwnZ; simpa using hown
  obtain ⟨q, d, rfl, _⟩ := ownZ_form ho
  rw [← hn] at hrun ho
  have HO := Lib.hid ho
  have HB := Lib.hid ((Below.refl w.heap.size w).grown hg (Nat.le_refl _) (by simp [Value.ownBlock]))
  have HRUN := Lib.hid hrun
  clear hrun hown hg hp hpn hn hl ho
  go_enter Tryz.func90, Tryz.ntmps90
  go_wp2_with (at_builtin; refine wpList_append_run (by rfl) _ _ 36 rfl _ _ _ rfl rfl HRUN.out ?_)
  go_ret
  exact ⟨q, d, rfl, HO.out, HB.out⟩
end Go.Proofs.YtafiekelcoaadaaGreat
