/- The walk of the document's Out: the right Nat of a row of decimal digits. -/
import Derived.Test.YtcahnkocfbcchaaGreatDoorNb

namespace Go.Proofs.YtcahnkocfbcchaaGreatDoor
open Go.RowKit Tnd

/-- what the inner loop knows on the way down: the quotient's digits stand from place k on, the rest is r. -/
def DivInv (N : List Nat) (k r : Nat) (N' : List Nat) : Prop :=
  N'.length = N.length ∧ N'.take k = N.take k ∧ Digs 10 (N'.drop k) ∧ r < 4294967296 ∧ nv 10 (N.drop k) = 4294967296 * nv 10 (N'.drop k) + r
theorem DivInv.start (N : List Nat) : DivInv N N.length 0 N :=
  ⟨rfl, rfl, by rw [List.drop_length]; exact fun x hx => by simp at hx, by omega, by rw [List.drop_length]; simp [nv]⟩
theorem DivInv.at {N : List Nat} {k r : Nat} {N' : List Nat} (h : DivInv N (k + 1) r N') (_hk : k < N.length) : gd N' k = gd N k := by
  have h2 := h.2.1
  have e1 : (N'.take (k + 1))[k]? = (N.take (k + 1))[k]? := by rw [h2]
  rw [List.getElem?_take_of_lt (by omega), List.getElem?_take_of_lt (by omega)] at e1
  unfold gd
  rw [List.getD_eq_getElem?_getD, List.getD_eq_getElem?_getD, e1]
theorem DivInv.step {N : List Nat} {k r : Nat} {N' : List Nat} (h : DivInv N (k + 1) r N') (hk : k < N.length) (hd : Digs 10 N) :
    DivInv N k ((10 * r + gd N k) % 4294967296) (N'.set k ((10 * r + gd N k) / 4294967296)) := by
  obtain ⟨h1, h2, h3, h4, h5⟩ := h
  have hx : gd N k < 10 := gd_lt hd (by omega) k
  have hlen : (N'.set k ((10 * r + gd N k) / 4294967296)).length = N.length := by rw [List.length_set, h1]
  have hdr : (N'.set k ((10 * r + gd N k) / 4294967296)).drop k = ((10 * r + gd N k) / 4294967296) :: N'.drop (k + 1) := by
    rw [List.drop_eq_getElem_cons (by rw [hlen]; exact hk)]
    congr 1
    · rw [List.getElem_set_self]
    · rw [List.drop_set_of_lt (by omega)]
  refine ⟨hlen, ?_, ?_, Nat.mod_lt _ (by omega), ?_⟩
  · rw [List.take_set_of_le (by omega)]
    have e : ∀ (l : List Nat), l.take k = (l.take (k + 1)).take k := fun l => by rw [List.take_take, Nat.min_eq_left (by omega)]
    rw [e N', h2, ← e N]
  · rw [hdr]
    intro x hxm
    rcases List.mem_cons.1 hxm with rfl | hm
    · generalize gd N k = y at *
      omega
    · exact h3 x hm
  · rw [hdr, nv_drop_step 10 N k hk, h5]
    show _ = 4294967296 * (_ + 10 * nv 10 (N'.drop (k + 1))) + _
    generalize nv 10 (N'.drop (k + 1)) = z
    generalize gd N k = y at *
    omega
theorem DivInv.done {N : List Nat} {r : Nat} {N' : List Nat} (h : DivInv N 0 r N') : Digs 10 N' ∧ nv 10 N' = nv 10 N / 4294967296 ∧ r = nv 10 N % 4294967296 := by
  obtain ⟨h1, h2, h3, h4, h5⟩ := h
  rw [List.drop_zero] at h3 h5
  rw [List.drop_zero] at h5
  exact ⟨h3, by omega, by omega⟩
/-- a right row less the digits of a digit to 2^32 is shorter. -/
theorem shorter {N M : List Nat} (hn : N ≠ []) (hd : Digs 10 N) (hr : RightL M) (hv : nv 10 M = nv 10 N / 4294967296) : M.length < N.length := by
  have h1 := nv_lt 10 N hd
  by_cases hm : M = []
  · subst hm; simpa using List.length_pos_iff.2 hn
  · have h2 := right_ge 10 M hr hm
    rw [hv] at h2
    have hml : 1 ≤ M.length := List.length_pos_iff.2 hm
    rcases Nat.lt_or_ge M.length N.length with h | h
    · exact h
    · exfalso
      have h3 : 10 ^ N.length ≤ 10 ^ M.length := Nat.pow_le_pow_right (by omega) h
      have h4 : 10 ^ M.length = 10 ^ (M.length - 1) * 10 := by rw [← Nat.pow_succ]; congr 1; omega
      omega

theorem own_block {w : World} {B : Nat} {e : TypeId} {k : IntKind} {v : Value} {N : List Nat} (h : Own w B e k v N) {g : Nat} (hg : v.ownBlock = some g) : ∃ cs, w.heap[g]? = some (.cells cs e (0, 0)) := by
  rcases h.2 with ⟨rfl, _⟩ | ⟨g', cap, cur, rfl, _, hh, _⟩
  · simp [Value.ownBlock] at hg
  · simp only [Value.ownBlock, Option.some.injEq] at hg
    subst hg
    exact ⟨_, hh⟩
theorem own_two {w : World} {B B' : Nat} {e e' : TypeId} {k k' : IntKind} {v v' : Value} {N N' : List Nat} (h : Own w B e k v N) (h' : Own w B' e' k' v' N') (hne : e ≠ e') : v.ownBlock = none ∨ v.ownBlock ≠ v'.ownBlock := by
  cases hv : v.ownBlock with
  | none => exact .inl rfl
  | some g =>
    right
    intro e1
    obtain ⟨cs, hc⟩ := own_block h hv
    exact own_ne h' hc hne e1.symm
theorem own_two' {w : World} {B B' : Nat} {e e' : TypeId} {k k' : IntKind} {v v' : Value} {N N' : List Nat} (h : Own w B e k v N) (h' : Own w B' e' k' v' N') (hne : e ≠ e') {g : Nat} (hg : v'.ownBlock = some g) : v.ownBlock = none ∨ v.ownBlock ≠ some g := by
  have := own_two h h' hne
  rwa [hg] at this
theorem news8_at {w : World} {b off : Nat} {a : List Nat} (h : ∀ i, i < a.length → w.cell? ⟨b, off + i, none⟩ = some (.int .u8 (gd a i : Nat))) : ∀ j u, (a.map fun d => Value.int .u8 (d : Nat))[j]? = some u → w.cell? ((⟨b, off, none⟩ : Addr).add j) = some u := by
  intro j u hu
  rw [List.getElem?_map] at hu
  obtain ⟨d, hd, rfl⟩ := Option.map_eq_some_iff.1 hu
  have hj := (List.getElem?_eq_some_iff.1 hd).1
  have e2 : (⟨b, off, none⟩ : Addr).add j = ⟨b, off + j, none⟩ := by simp [Addr.add]
  rw [e2, h j hj]
  unfold gd
  rw [List.getD_eq_getElem?_getD, hd]; rfl
/-- append of a row of bytes onto one of the call's own. -/
theorem run_join8 {w : World} {B : Nat} {v : Value} {N : List Nat} {q : Option Addr} {cq : Nat} {a : List Nat} (T : TypeId) (ho : Own w B 5 .u8 v N) (hs : Sl w .u8 q a) (hq : q = none → cq = 0) (hl : N.length + a.length ≤ 10000000000) (hB : B ≤ w.heap.size) :
    ∃ v' w', (Builtin.append_ #[59, 59] T #[v, .slice q a.length cq]).run Tryz.prog w = .ok v' w' ∧ Own w' B 5 .u8 v' (N ++ a) ∧ w.grownBy w' v.ownBlock := by
  obtain ⟨i0, hinf, hz0, hz1, hz2⟩ := info_parts info_u8
  unfold Own at ho
  cases q with
  | none =>
    have := hq rfl
    subst this
    have ha : a = [] := by
      rcases hs with h | ⟨b, off, h, _⟩
      · exact h
      · cases h
    subst ha
    have hrun := run_append_owned_none (P := Tryz.prog) (w := w) B 59 T 5 i0 1 Tryz.underlying59 hinf v N.length _ ho
    refine ⟨v, w, hrun, ?_, World.grownBy.refl _ _⟩
    unfold Own
    rw [List.append_nil]; exact ho
  | some ad =>
    have hn : ∀ j u, (a.map fun d => Value.int .u8 (d : Nat))[j]? = some u → w.cell? (ad.add j) = some u := by
      rcases hs with h | ⟨b, off, h, hc⟩
      · subst h; intro j u hu; simp at hu
      · simp only [Option.some.injEq] at h
        subst h
        exact news8_at hc
    obtain ⟨v', w', h1, h2, h3, _⟩ := run_append_own (P := Tryz.prog) (w := w) B 59 T 5 i0 (.int .u8 0) 1 1 Tryz.underlying59 hinf hz0 hz1 hz2 rfl (by decide) v N.length _ ho ad a.length cq (a.map fun d => Value.int .u8 (d : Nat)) (by simp) hn (by intro u hu; rw [List.mem_map] at hu; obtain ⟨d, _, rfl⟩ := hu; rfl) (by simp only [maxLen]; omega) (by omega) hB
    refine ⟨v', w', h1, ?_, h3⟩
    unfold Own
    rw [List.length_append, List.map_append]
    exact h2

theorem wpList_append_run {P : Program} {w w' : World} {ops : Array Oper} {rest : List Oper} {o : Oper} {a : Act} {Q : Exit → Act → World → Prop} (hw : Region.wanted o (yielded ops a.tmps) = true) (s x : Operand) (t : TypeId)
    (ho : o.op = .call { callee := .builtin .append, args := #[s, x], argTypes := #[t, t] }) (v u v' : Value) (hs : a.eval s = v) (hx : a.eval x = u)
    (hrun : (Builtin.append_ #[t, t] o.type #[v, u]).run P w = .ok v' w') (h : wpList P ops Q rest (a.put o.dst v') w') : wpList P ops Q (o :: rest) a w := by
  refine wpList_step fun K hK => ?_
  simp only [hw, if_true]
  unfold Oper.wp
  simp [execOp, ho, resolve, invoke, builtin, hs, hx, hrun, Result.andThen]
  exact hK _ _ h

def lenOf : Value → Nat
  | .slice _ n _ => n
  | _ => 0
/-- a Nat at work in the cell nb, the digits that are left. -/
structure OutI (w wr : World) (nb : Nat) (v sa : Value) (A M : List Nat) (n : Nat) : Prop where
  d : Own wr nb 5 .u8 v M
  a : Own wr nb 46 .u32 sa A
  c : wr.heap[nb]? = some (.cells #[sa] 24 (0, 0))
  digD : Digs 10 M
  digA : Digs 4294967296 A
  low : Below nb w wr

theorem and_low (r x : Nat) (h : 10 * r + x < 18446744073709551616) : bits .and .u64 (10 * (r : Int) + x) 4294967295 = (((10 * r + x) % 4294967296 : Nat) : Int) := by
  have e : (10 * (r : Int) + x) = ((10 * r + x : Nat) : Int) := by omega
  rw [e]
  have h2 := Go.u64_and_nat (10 * r + x) 4294967295 h (by omega)
  rw [Go.nat_mask32] at h2
  exact h2
theorem own_empty8 (w : World) (B : Nat) (hB : B ≤ w.heap.size) : Own (w.alloc (.cells #[] 5)) B 5 .u8 (.slice (some ⟨w.heap.size, 0, none⟩) 0 0) [] := by
  have h := World.ownsRow_lit (base := B) (e := 5) (size := 1) w #[] 0 (by omega) (by simp only [maxLen]; omega) (by simp)
  unfold Own
  simpa using h

set_option maxHeartbeats 3200000 in
set_option maxRecDepth 100000 in
theorem out_any (q : Option Addr) (qc : Nat) (N : List Nat) (w : World) (hs : Sl w .u8 q N) (hqn : q = none → qc = 0) (hd : Digs 10 N) (hr : RightL N) (hl : N.length ≤ 1000000000) :
    Calls Tryz.prog 36 #[.slice q N.length qc] w fun e w' => ∃ v, e = .returned v ∧ FNat w' w.heap.size v (nv 10 N) ∧ Below w.heap.size w w' := by
  obtain ⟨j0, hj, hy0, hy1, hy2⟩ := info_parts info_u32
  obtain ⟨w0, hw0⟩ : ∃ w0, w0 = (w.alloc (.cells #[.slice none 0 0] 24)).alloc (.cells #[.slice none 0 0] 24) := ⟨_, rfl⟩
  obtain ⟨nb, hnb⟩ : ∃ nb, nb = w.heap.size + 1 := ⟨_, rfl⟩
  have hs0 : w0.heap.size = nb + 1 := by subst hw0; simp [hnb]
  have hR0 : w0.heap[w.heap.size]? = some (.cells #[.slice none 0 0] 24 (0, 0)) := by
    subst hw0
    rw [Below.heap_alloc _ _ _ (by simp)]; exact heap_alloc_new w _
  have hA0 : w0.heap[nb]? = some (.cells #[.slice none 0 0] 24 (0, 0)) := by
    have h := heap_alloc_new (w.alloc (.cells #[.slice none 0 0] 24)) (.cells #[.slice none 0 0] 24)
    subst hw0; subst hnb
    simpa using h
  have hB0 : Below w.heap.size w w0 := by subst hw0; exact ((Below.refl _ _).alloc (Nat.le_refl _) _).alloc (by simp) _
  have hE := own_empty8 w0 nb (by omega)
  have hba : Below w0.heap.size w0 (w0.alloc (.cells #[] 5)) := (Below.refl _ _).alloc (Nat.le_refl _) _
  have hsl : Sl (w0.alloc (.cells #[] 5)) .u8 q N := by
    rcases hs with h | ⟨b, off, h1, h2⟩
    · exact .inl h
    · refine .inr ⟨b, off, h1, fun i hi => ?_⟩
      have h3 := World.block_lt_of_cell? w _ (h2 i hi)
      rw [hba.cell (by have := hB0.size; simp at h3 ⊢; omega), hB0.cell (by simpa using h3)]; exact h2 i hi
  obtain ⟨v3, w3, hr1, hr2, hr3⟩ := run_join8 59 hE hsl hqn (by simp; omega) (B := nb) (by have := hba.size; omega)
  rw [List.nil_append] at hr2
  have hb3 : Below nb w0 w3 := (hba.mono (by omega)).grown hr3 (by have := hba.size; omega) (fun k hk => (hE.lt k hk).1)
  obtain ⟨p3, c3, hv3, _⟩ := own_form hr2
  subst hv3
  have hA3 : w3.heap[nb]? = some (.cells #[.slice none 0 0] 24 (0, 0)) := by
    rw [hr3.block nb (by have := hba.size; omega) (by simp [Value.ownBlock, hs0]), Below.heap_alloc _ _ _ (by omega)]; exact hA0
  have HI3 : Hid (OutI w0 w3 nb (.slice p3 N.length c3) (.slice none 0 0) [] N (nv 10 N)) := ⟨hr2, own_nil _ _ _ _, hA3, hd, (fun x hx => nomatch hx), hb3⟩
  have HRUN := Lib.hid hr1
  have HW0 := Lib.hid hw0
  have HNB := Lib.hid hnb
  have HS0 := Lib.hid hs0
  have HR0 := Lib.hid hR0
  have HB0 := Lib.hid hB0
  have HRN := Lib.hid hr
  have E1 : Hid (w.heap.size + 1 = nb) := hnb.symm
  have E2 : Hid (w.heap.size + 1 + 1 = w0.heap.size) := by show _ = _; omega
  clear hr1 hr2 hr3 hb3 hA3 hba hE hsl hA0 hB0 hR0 hs hqn hw0 hs0 hr hd hnb
  go_enter Tryz.func36, Tryz.ntmps36
  go_wp2_with (first | (at_builtin; rw [← HW0.out, E2.out]; refine wpList_append_run (by rfl) _ _ 59 rfl _ _ _ rfl rfl HRUN.out ?_))
  rw [E1.out]
  clear HRUN E2
  go_loopw [0, 4, 5] (fun v rv iv wr => ∃ (A M : List Nat) (q pa : Option Addr) (qc ca : Nat), v = .slice q M.length qc ∧ M.length + A.length ≤ N.length ∧ Hid (OutI w0 wr nb (.slice q M.length qc) (.slice pa A.length ca) A M (nv 10 N)) ∧ Hid (RightL M) ∧ Hid (nv 4294967296 A + 4294967296 ^ A.length * nv 10 M = nv 10 N) ∧ Hid (nv 10 M = 0 → RightL A)) (fun v _ _ _ => lenOf v)
  case atStart => exact ⟨[], N, p3, none, c3, 0, rfl, by simp, HI3, HRN, by show nv _ [] + _ ^ 0 * _ = _; simp [nv], fun _ => right_nil⟩
  case round =>
    obtain ⟨A, M, q, pa, qc, ca, rfl, hMA, HI, HR, HV, HA⟩ := hrel
    rename World => wr
    by_cases hM : 0 < M.length
    · obtain ⟨g, rfl⟩ : ∃ g, q = some ⟨g, 0, none⟩ := by
        rcases HI.out.d.2 with ⟨h, hn⟩ | ⟨g, cap, cur, h, _⟩
        · simp only [Value.slice.injEq] at h; omega
        · simp only [Value.slice.injEq] at h; exact ⟨g, h.1⟩
      have hMI : (M.length : Int) ≤ 1000000000 := by omega
      have HML := Lib.hid hMA
      have HM0 := Lib.hid hM
      have hM1 : 0 < (M.length : Int) := by omega
      obtain ⟨n, hn⟩ : ∃ n, n = M.length := ⟨_, rfl⟩
      rw [← hn] at hMI hM1 ⊢
      have HN := Lib.hid hn
      have HI1 : Hid (OutI w0 wr nb (.slice (some ⟨g, 0, none⟩) n qc) (.slice pa A.length ca) A M (nv 10 N)) := by
        show OutI _ _ _ _ _ _ _ _
        rw [hn]; exact HI.out
      have HQ : Hid (Digs 10 M) := HI.out.digD
      clear hM hMA hn
      go_wp2
      go_loopw [4, 5] (fun rv iv wi => ∃ (k r : Nat) (M' : List Nat), k ≤ n ∧ iv = .int .i64 ((k : Int) - 1) ∧ rv = .int .u64 r ∧ r < 4294967296 ∧ Hid (DivInv M k r M') ∧ Hid (Own wi nb 5 .u8 (.slice (some ⟨g, 0, none⟩) n qc) M' ∧ Own wi nb 46 .u32 (.slice pa A.length ca) A ∧ wi.heap[nb]? = some (.cells #[.slice pa A.length ca] 24 (0, 0)) ∧ Below nb w0 wi)) (fun _ iv _ => (intOf iv + 1).toNat)
      case atStart => exact ⟨n, 0, M, by omega, rfl, rfl, by omega, by have h := DivInv.start M; rw [← HN.out] at h; exact h, HI1.out.d, HI1.out.a, HI1.out.c, HI1.out.low⟩
      case round =>
        obtain ⟨k, r, M', hk, rfl, rfl, hr, HDI, HW⟩ := hrel
        rename World => wi
        cases k with
        | succ k =>
          have hkM : k < M.length := by have := HN.out; omega
          have hM'l : M'.length = n := by rw [HDI.out.1, ← HN.out]
          have hcell := own_cell HW.out.1 hM'l k (by omega)
          have hfr := own_free HW.out.1 hM'l k
          rw [HDI.out.at hkM] at hcell
          have hx : gd M k < 10 := gd_lt HQ.out (by omega) k
          have hst := HDI.out.step hkM HQ.out
          have HDS := Lib.hid hst
          have HL' := Lib.hid hM'l
          clear hst hM'l
          generalize gd M k = x at *
          have ek : ((k + 1 : Nat) : Int) - 1 = (k : Int) := by omega
          rw [ek]
          have r1 : (r : Int) ≤ 4294967295 := by omega
          have x1 : (x : Int) ≤ 9 := by omega
          have t1 : 0 ≤ 10 * (r : Int) + x := by omega
          have t2 : 10 * (r : Int) + x ≤ 42949672959 := by omega
          have d1 : 0 ≤ (10 * (r : Int) + x) / 4294967296 := by omega
          have d2 : (10 * (r : Int) + x) / 4294967296 ≤ 255 := by omega
          have HAND := Lib.hid (and_low r x (by omega))
          have HDV : Hid ((10 * (r : Int) + x) / 4294967296 = (((10 * r + x) / 4294967296 : Nat) : Int)) := by show _ = _; omega
          clear ek
          go_wp2
          go_roundw
          case rel =>
            rw [HDV.out, HAND.out]
            obtain ⟨hw1, hw2, hw3, hw4⟩ := HW.out
            have hst := own_store hw1 HL'.out k ((10 * r + x) / 4294967296)
            have hg := (own_block hw1 (g := g) rfl)
            obtain ⟨cs, hcs⟩ := hg
            refine ⟨k, (10 * r + x) % 4294967296, M'.set k ((10 * r + x) / 4294967296), by omega, rfl, rfl, Nat.mod_lt _ (by omega), HDS.out, hst.1, own_kept hw2 hst.2 (own_two' hw2 hw1 (by decide) rfl), ?_, hw4.setCell (hw1.lt g rfl).1 _⟩
            rw [hst.2.block nb (lt_of_block hw3) (fun e => (own_ne hw1 hw3 (by decide)) (by rw [Option.some.inj e]; rfl))]; exact hw3
          case measure => simp [intOf]
        | zero =>
          obtain ⟨hq1, hq2, hq3⟩ := HDI.out.done
          have HQ2 := Lib.hid hq2
          have HQ3 := Lib.hid hq3
          have HQ1 := Lib.hid hq1
          obtain ⟨hw1, hw2, hw3, hw4⟩ := HW.out
          have hcA := cell_of_one hw3
          have hfA := free_of_one hw3
          have HM' : Hid (M'.length = n) := by show _ = _; rw [HDI.out.1, ← HN.out]
          have hMn := HM'.out
          have hr1 : (r : Int) ≤ 4294967295 := by omega
          unfold Own at hw2
          have HO4 := Lib.hid hw2
          have HAN : Hid (A.length ≤ 1000000000) := by have := HML.out; show _ ≤ _; omega
          clear hq1 hq2 hq3 hw1 hw2 hw3 hw4 hMn
          go_wp2_with (at_builtin; refine wpList_append_own _ rfl _ _ 22 rfl nb 46 j0 (.int .u32 0) 1 4 Tryz.underlying22 hj hy0 hy1 hy2 rfl (by decide) (.slice pa A.length ca) A.length _ rfl (HO4.out.alloc _) ⟨wi.heap.size, 0, none⟩ 1 1 [.int .u32 (r : Nat)] rfl rfl ?c1 ?c2 ?c3 ?c4 ?c5 ?_)
          case c1 => exact cell_one_new _ _ _
          case c2 => simp [Value.oneCell']
          case c3 => have := HAN.out; simp only [maxLen]; omega
          case c4 => have := HAN.out; omega
          case c5 => have := lt_of_block HW.out.2.2.1; simp; omega
          intro v' w5 hown5 hgrow5 _
          have hO5 := own_appended rfl hown5
          have hne5 := (show (Value.slice pa A.length ca).ownBlock ≠ some nb from own_ne HW.out.2.1 HW.out.2.2.1 (by decide))
          have hc5 : w5.heap[nb]? = some (.cells #[.slice pa A.length ca] 24 (0, 0)) := by
            rw [hgrow5.block nb (by have := lt_of_block HW.out.2.2.1; simp; omega) (fun e => hne5 e.symm), Below.heap_alloc _ _ _ (lt_of_block HW.out.2.2.1)]; exact HW.out.2.2.1
          have hd5 : Own w5 nb 5 .u8 (.slice (some ⟨g, 0, none⟩) n qc) M' := by
            have h8 := own_below HW.out.1 (w' := wi.alloc (.cells #[.int .u32 (r : Nat)] 46)) ((Below.refl _ _).alloc (Nat.le_refl _) _)
            exact own_kept h8 hgrow5 (own_two HW.out.1 HW.out.2.1 (by decide))
          have hb5 : Below nb w0 w5 := (HW.out.2.2.2.alloc (by have := lt_of_block HW.out.2.2.1; omega) _).grown hgrow5 (by have := lt_of_block HW.out.2.2.1; simp; omega) (fun k hk => (HO4.out.lt k hk).1)
          have hcA5 := cell_of_one hc5
          have hfA5 := free_of_one hc5
          obtain ⟨p', c', hs'⟩ : ∃ p' c', v' = .slice p' (A ++ [r]).length c' := by
            obtain ⟨p', c', hs', _⟩ := own_form hO5
            exact ⟨p', c', hs'⟩
          subst hs'
          have hO6 : Own _ nb 46 .u32 _ _ := ownsRow_setCell_other (a := ⟨nb, 0, none⟩) hO5 (own_ne hO5 hc5 (by decide)) (.slice p' (A ++ [r]).length c')
          have hd6 : Own _ nb 5 .u8 _ _ := ownsRow_setCell_other (a := ⟨nb, 0, none⟩) hd5 (own_ne hd5 hc5 (by decide)) (.slice p' (A ++ [r]).length c')
          have hc6 := one_setCell hc5 (u := .slice p' (A ++ [r]).length c')
          have hb6 := hb5.setCell (p := ⟨nb, 0, none⟩) (Nat.le_refl _) (.slice p' (A ++ [r]).length c')
          have hd7 : Own (w5.setCell ⟨nb, 0, none⟩ (.slice p' (A ++ [r]).length c')) nb 5 .u8 (.slice (some ⟨g, 0, none⟩) M'.length qc) M' := by rw [HM'.out]; exact hd6
          have htr := trim_own hd7
          rw [HM'.out] at htr
          have HTR := Lib.hid htr
          have HO6 := Lib.hid hO6
          have HC6 := Lib.hid hc6
          have HB6 := Lib.hid hb6
          have HAR : Hid ((A ++ [r]).length = A.length + 1) := by show _ = _; simp
          have HV6 : Hid (nv 4294967296 (A ++ [r]) + 4294967296 ^ (A ++ [r]).length * nv 10 M' = nv 10 N ∧ Digs 4294967296 (A ++ [r]) ∧ (nv 10 M' = 0 → RightL (A ++ [r]))) := by
            have h1 : 0 < nv 10 M := by
              have h2 := right_ge 10 M HR.out (by intro e; have := HM0.out; rw [e] at this; simp at this)
              have h3 : 0 < 10 ^ (M.length - 1) := Nat.pow_pos (by omega)
              omega
            have h2 := carry_step 4294967296 (nv 10 N) (nv 10 M) A (by omega) h1 HV.out HI.out.digA
            rw [← HQ3.out, ← HQ2.out] at h2
            exact h2
          generalize A ++ [r] = A2 at *
          clear hO5 hne5 hc5 hd5 hb5 hO6 hd6 hc6 hb6 hd7 htr hown5 hgrow5 hcA hfA
          go_wp2_with fail
          refine HTR.out.mono ?_
          rintro e w6 ⟨M2, rfl, hM2, hO7, rfl⟩
          have hv2 : nv 10 M2 = nv 10 M' := by rw [hM2, nv_tlen]
          have hr2 : RightL M2 := by rw [hM2]; exact right_take_tlen M'
          have hd2 : Digs 10 M2 := by rw [hM2]; exact digs_take HQ1.out _
          have hlt := shorter (N := M) (M := M2) (by intro e; have := HM0.out; rw [e] at this; simp at this) HQ.out hr2 (by rw [hv2, HQ2.out])
          have HLT := Lib.hid hlt
          have HR2 := Lib.hid hr2
          have HI2 : Hid (OutI w0 (w5.setCell ⟨nb, 0, none⟩ (.slice p' A2.length c')) nb (.slice (some ⟨g, 0, none⟩) M2.length qc) (.slice p' A2.length c') A2 M2 (nv 10 N)) := ⟨hO7, HO6.out, HC6.out, hd2, HV6.out.2.1, HB6.out⟩
          have HV7 : Hid (nv 4294967296 A2 + 4294967296 ^ A2.length * nv 10 M2 = nv 10 N) := by show _ = _; rw [hv2]; exact HV6.out.1
          have HA7 : Hid (nv 10 M2 = 0 → RightL A2) := by show _ → _; rw [hv2]; exact HV6.out.2.2
          clear hM2 hO7 hv2 hr2 hd2 hlt HTR hcA5 hfA5
          go_wp2
          go_roundw
          case rel => exact ⟨A2, M2, some ⟨g, 0, none⟩, p', qc, c', rfl, by have := HLT.out; have := HML.out; have := HAR.out; omega, HI2, HR2, HV7, HA7⟩
          case measure =>
            have := HLT.out
            have := HN.out
            simp only [lenOf]
            omega
    · have hM0 : M = [] := List.eq_nil_of_length_eq_zero (by omega)
      subst hM0
      have hcA := cell_of_one HI.out.c
      have hR := HI.out.low.block w.heap.size (by have := HNB.out; omega)
      rw [HR0.out] at hR
      have hcR := cell_of_one hR
      have hfR := free_of_one hR
      have hvA : nv 4294967296 A = nv 10 N := by have h := HV.out; simpa [nv] using h
      have HF : Hid (FNat (wr.setCell ⟨w.heap.size, 0, none⟩ (.slice pa A.length ca)) w.heap.size (.agg #[.slice pa A.length ca]) (nv 10 N)) := by
        have hf : FNat wr nb (.agg #[.slice pa A.length ca]) (nv 10 N) := ⟨pa, ca, A, rfl, HI.out.a, HI.out.digA, HA.out (by simp [nv]), hvA⟩
        exact (hf.setCell hR (by decide) _).down (by have := HNB.out; omega)
      have hbl : Below w.heap.size w wr := HB0.out.trans (HI.out.low.mono (by have := HNB.out; omega))
      have HBL := Lib.hid (hbl.setCell (p := ⟨w.heap.size, 0, none⟩) (Nat.le_refl _) (.slice pa A.length ca))
      clear hR hvA hbl
      go_wp2
      refine bodyPost_ret (v := .agg #[.slice pa A.length ca]) (by simp [results, Tryz.results36, go_sem, hcR]) rfl ?_
      exact ⟨_, rfl, HF.out, HBL.out⟩
end Go.Proofs.YtcahnkocfbcchaaGreatDoor
