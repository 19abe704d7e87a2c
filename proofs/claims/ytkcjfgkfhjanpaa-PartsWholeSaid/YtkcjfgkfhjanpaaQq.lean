/- PartsAgain's walk: sets that are turned about, and their complements, and the classes themselves make the same classes. -/
import Derived.Test.YtkcjfgkfhjanpaaQp
namespace Go.Proofs.Ytkcjfgkfhjanpaa
open Go.RowKit Tnr

theorem svs_at {w : World} {b off : Nat} {xs : List SV} (h : SlS w (some ⟨b, off, none⟩) xs) : ∀ j u, (xs.map svV)[j]? = some u → w.cell? ((⟨b, off, none⟩ : Addr).add j) = some u := by
  intro j u hu
  rw [List.getElem?_map] at hu
  obtain ⟨x, hx, rfl⟩ := Option.map_eq_some_iff.1 hu
  have hj := (List.getElem?_eq_some_iff.1 hx).1
  have e2 : (⟨b, off, none⟩ : Addr).add j = ⟨b, off + j, none⟩ := by simp [Addr.add]
  obtain ⟨b2, o2, e3, hc⟩ := sls_at h hj
  simp only [Option.some.injEq, Addr.mk.injEq, and_true] at e3
  obtain ⟨rfl, rfl⟩ := e3
  rw [e2, hc, gs_get hj]
  have e4 := (List.getElem?_eq_some_iff.1 hx).2
  rw [e4]; rfl
theorem svs_one (xs : List SV) : ∀ u ∈ xs.map svV, u.oneCell' = true := by
  intro u hu
  obtain ⟨x, _, rfl⟩ := List.mem_map.1 hu
  rfl
/-- a row of rows appended to one of the call's own. -/
theorem run_joinS {w : World} {B n cq m : Nat} {v : Value} {vs : List Value} {b off : Nat} {xs : List SV} (T : TypeId) (ho : w.ownsRow B 31 1 v n vs) (hs : SlS w (some ⟨b, off, none⟩) xs) (hm : m = xs.length) (hl : n + m ≤ 1000000) (hB : B ≤ w.heap.size) :
    ∃ v' w', (Builtin.append_ #[22, 22] T #[v, .slice (some ⟨b, off, none⟩) m cq]).run Try.prog w = .ok v' w' ∧ w'.ownsRow B 31 1 v' (n + m) (vs ++ xs.map svV) ∧ w.grownBy w' v.ownBlock := by
  obtain ⟨i1, ginf, gz0, gz1, gz2⟩ := info_parts info_rows
  subst hm
  obtain ⟨v', w', h1, h2, h3, _⟩ := run_append_own (P := Try.prog) (w := w) B 22 T 31 i1 (.slice none 0 0) 1 24 Try.underlying22 ginf gz0 gz1 gz2 rfl (by decide) v n _ ho ⟨b, off, none⟩ xs.length cq (xs.map svV) (by simp) (svs_at hs) (svs_one xs) (by simp only [maxLen]; omega) (by omega) hB
  exact ⟨v', w', h1, h2, h3⟩
theorem run_joinN {w : World} {B n : Nat} {v : Value} {vs : List Value} (T : TypeId) (ho : w.ownsRow B 31 1 v n vs) :
    (Builtin.append_ #[22, 22] T #[v, .slice none 0 0]).run Try.prog w = .ok v w := by
  obtain ⟨i1, ginf, gz0, gz1, gz2⟩ := info_parts info_rows
  exact run_append_owned_none (P := Try.prog) (w := w) B 22 T 31 i1 1 Try.underlying22 ginf v n _ ho
/-- an append whose run is known, as a step of a drawn region. -/
theorem step_append_known {P : Program} {w w' : World} {ops : Array Oper} {o : Oper} {a : Act} {K : Act → World → Prop} {Q : Exit → Act → World → Prop} {E : Prop} (hg : o.guard = none) (s x : Operand) (t : TypeId)
    (ho : o.op = .call { callee := .builtin .append, args := #[s, x], argTypes := #[t, t] }) (v u v' : Value) (hs : a.eval s = v) (hx : a.eval x = u)
    (hrun : (Builtin.append_ #[t, t] o.type #[v, u]).run P w = .ok v' w') (h : K (a.put o.dst v') w') : if Region.wanted o (yielded ops a.tmps) = true then Oper.wp P o a w K Q else E := by
  have hw : Region.wanted o (yielded ops a.tmps) = true := by simp [Region.wanted, hg]
  rw [if_pos hw]
  unfold Oper.wp
  simp [execOp, ho, resolve, invoke, builtin, hs, hx, hrun, Result.andThen]
  exact h

theorem run_joinD {w : World} {B n c k : Nat} {v : Value} {vs : List Value} {ad : Addr} {xs : List SV} (ho : w.ownsRow B 31 1 v n vs) (hs : SlS w (some ad) xs) (hk : k ≤ xs.length) (hc : xs.length ≤ c) (hl : n + xs.length ≤ 1000000) (hB : B ≤ w.heap.size) {m : Nat} (hm : m = xs.length) :
    ∃ v' w', (Builtin.append_ #[22, 22] 22 #[v, .slice (if c = k then some ad else some (ad.add k)) (m - k) (c - k)]).run Try.prog w = .ok v' w' ∧ w'.ownsRow B 31 1 v' (n + (m - k)) (vs ++ (xs.drop k).map svV) ∧ w.grownBy w' v.ownBlock := by
  obtain ⟨i1, ginf, gz0, gz1, gz2⟩ := info_parts info_rows
  subst hm
  obtain ⟨ad', had⟩ : ∃ ad', (if c = k then some ad else some (ad.add k)) = some ad' := by split <;> exact ⟨_, rfl⟩
  rw [had]
  have hdl : (xs.drop k).length = xs.length - k := List.length_drop
  have hn : ∀ j u, ((xs.drop k).map svV)[j]? = some u → w.cell? (ad'.add j) = some u := by
    intro j u hu
    have hj : j < (xs.drop k).length := by
      have := (List.getElem?_eq_some_iff.1 hu).1
      simpa using this
    rw [hdl] at hj
    have hck : ¬ c = k := by omega
    rw [if_neg hck] at had
    rcases hs.2 with h | ⟨b, off, h, _⟩
    · rw [h] at hj; simp at hj
    · simp only [Option.some.injEq] at h had
      subst h
      have e : ad' = ⟨b, off + k, none⟩ := by rw [← had]; simp [Addr.add]
      subst e
      exact svs_at (sls_drop hs k) j u hu
  obtain ⟨v', w', h1, h2, h3, _⟩ := run_append_own (P := Try.prog) (w := w) B 22 22 31 i1 (.slice none 0 0) 1 24 Try.underlying22 ginf gz0 gz1 gz2 rfl (by decide) v n _ ho ad' (xs.length - k) (c - k) ((xs.drop k).map svV) (by rw [List.length_map, hdl]; omega) hn (svs_one _) (by simp only [maxLen]; omega) (by omega) hB
  exact ⟨v', w', h1, h2, h3⟩
theorem run_joinT {w : World} {B n c k : Nat} {v : Value} {vs : List Value} {ad : Addr} {xs : List SV} (ho : w.ownsRow B 31 1 v n vs) (hs : SlS w (some ad) xs) (hk : k ≤ xs.length) (hl : n + k ≤ 1000000) (hB : B ≤ w.heap.size) :
    ∃ v' w', (Builtin.append_ #[22, 22] 22 #[v, .slice (some ad) k c]).run Try.prog w = .ok v' w' ∧ w'.ownsRow B 31 1 v' (n + k) (vs ++ (xs.take k).map svV) ∧ w.grownBy w' v.ownBlock := by
  obtain ⟨i1, ginf, gz0, gz1, gz2⟩ := info_parts info_rows
  have hdl : (xs.take k).length = k := by rw [List.length_take]; omega
  have hn : ∀ j u, ((xs.take k).map svV)[j]? = some u → w.cell? (ad.add j) = some u := by
    intro j u hu
    have hj : j < (xs.take k).length := by
      have := (List.getElem?_eq_some_iff.1 hu).1
      simpa using this
    rw [hdl] at hj
    rcases (sls_take hs k).2 with h | ⟨b, off, h, _⟩
    · rw [h] at hdl; simp at hdl; omega
    · simp only [Option.some.injEq] at h
      subst h
      exact svs_at (sls_take hs k) j u hu
  obtain ⟨v', w', h1, h2, h3, _⟩ := run_append_own (P := Try.prog) (w := w) B 22 22 31 i1 (.slice none 0 0) 1 24 Try.underlying22 ginf gz0 gz1 gz2 rfl (by decide) v n _ ho ad k c ((xs.take k).map svV) (by rw [List.length_map, hdl]; omega) hn (svs_one _) (by simp only [maxLen]; omega) (by omega) hB
  exact ⟨v', w', h1, h2, h3⟩
theorem rows_form {w : World} {B n : Nat} {v : Value} {vs : List Value} (h : w.ownsRow B 31 1 v n vs) : ∃ po co, v = .slice po n co ∧ n ≤ co := by
  rcases h.2 with ⟨h1, h2⟩ | ⟨g, cap, cur, e, _, _, hnc, _⟩
  · exact ⟨none, 0, by rw [h1, h2], by omega⟩
  · exact ⟨_, cap, e, hnc⟩
theorem rows_sls {w : World} {B n co : Nat} {po : Option Addr} {xs : List SV} (h : w.ownsRow B 31 1 (.slice po n co) n (xs.map svV)) (hn : n = xs.length) (hx : ∀ x ∈ xs, SlR w x.1 x.2.2) : SlS w po xs := by
  refine ⟨hx, ?_⟩
  rcases h.2 with ⟨_, hn0⟩ | ⟨g, cap, cur, e, _, _, _⟩
  · left; exact List.eq_nil_of_length_eq_zero (by omega)
  · simp only [Value.slice.injEq] at e
    obtain ⟨rfl, -, rfl⟩ := e
    refine .inr ⟨g, 0, rfl, fun i hi => ?_⟩
    rw [Nat.zero_add, h.cellAt i (by omega), List.getElem?_map, List.getElem?_eq_getElem hi, gs_get hi]
    rfl
theorem ng_total : ∀ S : List (List R), (S.map ng).flatten.length ≤ S.flatten.length + S.length
  | [] => by simp
  | l :: S => by
    have h1 := ng_total S
    have h2 := ng_length l
    rw [List.map_cons, List.flatten_cons, List.length_append, List.flatten_cons, List.length_append, List.length_cons]
    omega
theorem rowsV_append (xs ys : List SV) : rowsV (xs ++ ys) = rowsV xs ++ rowsV ys := by simp [rowsV]
theorem rowsV_take (xs : List SV) (k : Nat) : rowsV (xs.take k) = (rowsV xs).take k := by simp [rowsV, List.map_take]
theorem rowsV_drop (xs : List SV) (k : Nat) : rowsV (xs.drop k) = (rowsV xs).drop k := by simp [rowsV, List.map_drop]
theorem other_alike (S : List (List R)) (k : Nat) : ∀ a b, Pt a → Pt b → (alike ((S.drop k ++ S.take k) ++ S.map ng) a b ↔ alike S a b) := fun a b ha hb => alike_other S k a b ha hb

/-- where the walk of the others stands. -/
structure AI (xs : List SV) (k i m B : Nat) (w2 wr : World) (v : Value) (nots : List SV) : Prop where
  rows : rowsV nots = ((rowsV xs).take i).map ng
  len : nots.length = i
  own : wr.ownsRow B 31 1 v (m + i) (((xs.drop k ++ xs.take k) ++ nots).map svV)
  has : ∀ y ∈ nots, OwnR wr B (svV y) y.2.2
  low : Below w2.heap.size w2 wr
theorem AI.below {xs : List SV} {k i m B : Nat} {w2 wr w' : World} {v : Value} {nots : List SV} (h : AI xs k i m B w2 wr v nots) (hb : Below wr.heap.size wr w') : AI xs k i m B w2 w' v nots := by
  refine ⟨h.rows, h.len, ?_, fun y hy => ownR_below (h.has y hy) hb, bl_trans h.low hb⟩
  obtain ⟨h1, h2⟩ := h.own
  refine ⟨h1, ?_⟩
  rcases h2 with h2 | ⟨g, cap, cur, rfl, hg, hh, r⟩
  · exact .inl h2
  · exact .inr ⟨g, cap, cur, rfl, hg, by rw [hb.block g (lt_of_block hh)]; exact hh, r⟩
theorem ownR_kept_rows {w w' : World} {B B' n : Nat} {v u : Value} {l : List R} {xs : List Value} (h : OwnR w B' v l) (hg : w.grownBy w' u.ownBlock) (ho : w.ownsRow B 31 1 u n xs) : OwnR w' B' v l := by
  refine ownR_kept h hg (not_two fun g hg => ?_)
  rcases ho.2 with ⟨rfl, _⟩ | ⟨g', cap, cur, rfl, _, hh, _⟩
  · simp [Value.ownBlock] at hg
  · simp only [Value.ownBlock, Option.some.injEq] at hg
    subst hg
    exact ownR_ne h hh (by decide)
theorem ai_next {xs : List SV} {k i m B : Nat} {w2 w5 w6 : World} {v v' : Value} {nots : List SV} {y : SV} {la : List R} (h : AI xs k i m B w2 w5 v nots) (hla : gl (rowsV xs) i = la) (hi : i < (rowsV xs).length) (hy : OwnR w5 B (svV y) (ng la)) (hown : w6.ownsRow B 31 1 v' (m + i + 1) (((xs.drop k ++ xs.take k) ++ nots).map svV ++ [svV y])) (hg : (w5.alloc (.cells #[svV y] 31)).grownBy w6 v.ownBlock) (hB : B = w2.heap.size) (hye : y.2.2 = ng la := by rfl) :
    AI xs k (i + 1) m B w2 w6 v' (nots ++ [y]) := by
  have h5 := h.below (bl_alloc w5 (.cells #[svV y] 31))
  refine ⟨?_, by rw [List.length_append, h.len]; rfl, ?_, fun z hz => ?_, ?_⟩
  · rw [rowsV_append, h.rows, map_take_gl ng _ hi, hla]
    have e : rowsV [y] = [y.2.2] := rfl
    rw [e, hye]
  · rw [← List.append_assoc, List.map_append, ← Nat.add_assoc]
    exact hown
  · rcases List.mem_append.1 hz with hz | hz
    · exact ownR_kept_rows (h5.has z hz) hg h5.own
    · rw [List.mem_singleton] at hz
      subst hz
      rw [hye]
      exact ownR_kept_rows (ownR_below hy (bl_alloc _ _)) hg h5.own
  · exact h5.low.grown hg (by have := h5.low.size; exact this) (fun k hk => by have := (h5.own.lt k hk).1; omega)
theorem AI.sls {xs : List SV} {k i m B co : Nat} {w2 wr : World} {po p : Option Addr} {nots : List SV} (h : AI xs k i m B w2 wr (.slice po (m + i) co) nots) (hx : SlS wr p xs) (hi : i ≤ m) (hm : m = xs.length) (hk : k ≤ m) : SlS wr po ((xs.drop k ++ xs.take k) ++ nots) := by
  refine rows_sls h.own (by rw [List.length_append, List.length_append, List.length_drop, List.length_take, h.len]; omega) fun x hx2 => ?_
  rcases List.mem_append.1 hx2 with hx2 | hx2
  · rcases List.mem_append.1 hx2 with hx2 | hx2
    · exact hx.1 x (List.mem_of_mem_drop hx2)
    · exact hx.1 x (List.mem_of_mem_take hx2)
  · have h1 := h.has x hx2
    unfold svV at h1
    exact ownR_sl h1

set_option maxHeartbeats 3200000 in
set_option maxRecDepth 100000 in
theorem again_true (p : Option Addr) (c : Nat) (xs : List SV) (z : Int) (w : World) (hx : SlS w p xs) (hc : xs.length ≤ c) (hcm : p = none → c = 0) (hl : xs.length ≤ 1000000000000000) (hle : ∀ x ∈ xs, x.2.2.length ≤ 4000000000000000) :
    Calls Try.prog 4 #[.slice p xs.length c, .int .i64 z] w fun e w' => e = .returned (.bool true) ∧ Below w.heap.size w w' := by
  obtain ⟨i1, ginf, gz0, gz1, gz2⟩ := info_parts info_rows
  have HA := Lib.hid (awake_any w)
  have HX := Lib.hid hx
  have HR := Lib.hid fun W hb => rangeRowsOf_any p c xs.length xs W rfl (hx.below hb) hl hle
  obtain ⟨m, hm⟩ : ∃ m, m = xs.length := ⟨_, rfl⟩
  rw [← hm] at hc HR ⊢
  have HM := Lib.hid hm
  have hmI : (m : Int) ≤ 1000000000000000 := by omega
  have HC := Lib.hid hc
  have HCM := Lib.hid hcm
  clear hx hc hcm hl hle hm
  go_enter Try.func4, Try.ntmps4
  go_wp2_with fail
  refine HA.out.mono ?_
  clear HA
  rintro e w1 ⟨rfl, hb1⟩
  have HB1 := Lib.hid hb1
  clear hb1
  go_wp2_with fail
  refine (HR.out w1 HB1.out).mono ?_
  clear HR
  rintro e w1' ⟨q, rfl, hq, rfl⟩
  by_cases hq1 : 150 < q
  · have hqI : 150 < (q : Int) := by omega
    clear hq
    go_wp2
    go_ret
    exact ⟨rfl, HB1.out⟩
  · have hqI : (q : Int) ≤ 150 := by omega
    have HQ := Lib.hid (hq (by omega))
    have hm150 : m ≤ 150 := by have := HQ.out; have := HM.out; omega
    have HO := Lib.hid (partsOf_any p c m xs w1 HM.out HC.out (HX.out.below HB1.out) (by have := HQ.out; have := HM.out; omega) (by have := HQ.out; omega))
    clear hq hq1
    go_wp2_with fail
    refine HO.out.mono ?_
    clear HO
    rintro e w2 ⟨hb2, hor⟩
    have HB2 := Lib.hid (bl_trans HB1.out hb2)
    have HE : Hid (∃ (le : Option Addr) (ln lc : Nat) (es : Int) (ys : List SV), e = .returned (.tuple #[.slice le ln lc, .int .i64 es]) ∧ ln = ys.length ∧ ln ≤ lc ∧ SlS w2 le ys ∧ (flat ys).length ≤ 1000 ∧ ln ≤ 60 ∧ ((es = 3 ∧ ys = [] ∧ More (rowsV xs)) ∨ (es = 0 ∧ Parts (rowsV xs) (rowsV ys)))) := by
      rcases hor with ⟨h1, h2⟩ | ⟨po, nn, co, ys, vs, h1, h2, h3, h4, h5, h6, h7, _⟩
      · exact ⟨none, 0, 0, 3, [], h1, rfl, Nat.le_refl _, ⟨fun x hx => by simp at hx, .inl rfl⟩, by simp [flat], by omega, .inl ⟨rfl, rfl, h2⟩⟩
      · exact ⟨po, nn, co, 0, ys, h1, h2, h3, h6, by have := HQ.out; have := HM.out; omega, h4, .inr ⟨rfl, h5⟩⟩
    clear hor hb2
    obtain ⟨le, ln, lc, es, ys, rfl, hln, hlc, hys, hfy, hl60, hkind⟩ := HE.out
    have HLN := Lib.hid hln
    have HLC := Lib.hid hlc
    have HYS := Lib.hid hys
    have HFY := Lib.hid hfy
    have HKIND := Lib.hid hkind
    have hl60I : (ln : Int) ≤ 60 := by omega
    have hes : es = 3 ∨ es = 0 := hkind.imp (fun h => h.1) (fun h => h.1)
    have HES := Lib.hid hes
    clear HE hln hlc hys hfy hkind hes
    have HPK := Lib.hid (pick_any z (m + 1) w2 (by omega) (by omega))
    go_wp2_with fail
    refine HPK.out.mono ?_
    clear HPK
    rintro e w2' ⟨k, rfl, hk, rfl⟩
    have hkm : k ≤ m := by omega
    have hkI : (k : Int) ≤ m := by omega
    have hmcI : (m : Int) ≤ c := by have := HC.out; omega
    have hkc : k ≤ c := by have := HC.out; omega
    clear hk
    obtain ⟨B, hB⟩ : ∃ B, B = w2.heap.size := ⟨_, rfl⟩
    have HO1 : Hid ((w2.drew.alloc (.cells #[] 31)).ownsRow B 31 1 (.slice (some ⟨w2.heap.size, 0, none⟩) 0 0) 0 []) := by
      rw [hB]; exact World.ownsRow_lit (base := w2.heap.size) w2.drew #[] 0 (Nat.le_refl _) (by decide) rfl
    have HBE := Lib.hid hB
    have HL0 : Hid (Below w2.heap.size w2 (w2.drew.alloc (.cells #[] 31))) := (bl_drew w2).alloc (Nat.le_refl _) _
    clear hB
    cases p with
    | none =>
      have hc0 : c = 0 := HCM.out rfl
      have hm0 : m = 0 := by omega
      have hk0 : k = 0 := by omega
      obtain ⟨w4, hw4⟩ : ∃ w4, w4 = w2.drew.alloc (.cells #[] 31) := ⟨_, rfl⟩
      rw [← hw4] at HO1 HL0
      have hr1 := run_joinN 22 HO1.out
      obtain ⟨po, hpo⟩ : ∃ po, po = some (⟨w2.heap.size, 0, none⟩ : Addr) := ⟨_, rfl⟩
      obtain ⟨co, hco⟩ : ∃ co, co = 0 := ⟨_, rfl⟩
      subst hk0
      subst hc0
      subst hm0
      have HOW : Hid (w4.ownsRow B 31 1 (.slice (some ⟨w2.heap.size, 0, none⟩) 0 0) 0 ((xs.drop 0 ++ xs.take 0).map svV)) := by
        show World.ownsRow _ _ _ _ _ _ _
        have e : xs = [] := List.eq_nil_of_length_eq_zero HM.out.symm
        subst e
        exact HO1.out
      have HL2 := HL0
      rw [hw4] at hr1
      go_wp2
      go_region_law (first | (refine step_append_known (by rfl) _ _ _ (by rfl) _ _ _ (by rfl) (by rfl) hr1 ?_))
      have hxe : xs = [] := List.eq_nil_of_length_eq_zero HM.out.symm
      subst hxe
      clear hr1
      go_wp2
      go_loopw [8, 9] (fun ov iv wr => ov = .slice (some ⟨w2.heap.size, 0, none⟩) 0 0 ∧ iv = .int .i64 0 ∧ Hid (Below w2.heap.size w2 wr)) (fun _ _ _ => 0)
      case atStart => exact ⟨rfl, rfl, by first | exact (bl_alloc _ _).drew | exact (bl_drew _).alloc (Nat.le_refl _) _⟩
      case round =>
        obtain ⟨rfl, rfl, HLX⟩ := hrel
        rename World => wr
        have HLW := Lib.hid (bl_trans HB2.out HLX.out)
        have HYW := Lib.hid (HYS.out.below HLX.out)
        clear hw4 HL2 HOW HO1 HL0
        have HO2 := Lib.hid (partsOf_any (some ⟨w2.heap.size, 0, none⟩) 0 0 [] wr rfl (Nat.le_refl _) ⟨fun x hx => by simp at hx, .inl rfl⟩ (by simp) (by simp [flat]))
        go_wp2_with fail
        refine HO2.out.mono ?_
        clear HO2
        rintro e w7 ⟨hb7, hor⟩
        have HY7 := Lib.hid (HYW.out.below hb7)
        have HL7 := Lib.hid (bl_trans HLW.out hb7)
        have HE : Hid (∃ (me : Option Addr) (mn mc : Nat) (ms : List SV), e = .returned (.tuple #[.slice me mn mc, .int .i64 es]) ∧ mn = ms.length ∧ SlS w7 me ms ∧ rowsV ms = rowsV ys) := by
          rcases HKIND.out with ⟨e3, ey, hmo⟩ | ⟨e0, hpy⟩
          · have hmo2 := hmo
            rcases hor with ⟨h1, _⟩ | ⟨pp, np, cp, yy, _, h1, h2, h3, h4, h5, _⟩
            · exact ⟨none, 0, 0, [], by rw [h1, e3], rfl, ⟨fun x hx => by simp at hx, .inl rfl⟩, by rw [ey]⟩
            · have h6 := hmo2.not h5
              rw [rowsV_length] at h6
              exact absurd h4 (by omega)
          · have hpo := hpy
            rcases hor with ⟨_, h1⟩ | ⟨pp, np, cp, yy, _, h1, h2, h3, h4, h5, h6, _⟩
            · have h6 := h1.not hpo
              rw [rowsV_length] at h6
              have := HLN.out
              exact absurd h6 (by omega)
            · exact ⟨pp, np, cp, yy, by rw [h1, e0], h2, h6, Parts.one h5 hpo⟩
        clear hor hb7
        obtain ⟨me, mn, mc, ms, rfl, hmn, hms, hmr⟩ := HE.out
        clear HE
        have hmn2 : mn = ln := by rw [hmn, HLN.out, ← rowsV_length ms, hmr, rowsV_length]
        subst hmn2
        have HSAME := Lib.hid (sameRows_eq le me lc mc mn ys ms w7 HLN.out hmr.symm HY7.out hms (by have := HFY.out; omega) (by omega))
        clear hmn hms hmr
        go_wp2_with fail
        refine HSAME.out.mono ?_
        clear HSAME
        rintro e w8 ⟨rfl, hb8⟩
        have HY8 := Lib.hid (HY7.out.below hb8)
        have HL8 := Lib.hid (bl_trans HL7.out hb8)
        have HO3 := Lib.hid (partsOf_any le lc mn ys w8 HLN.out HLC.out HY8.out (by have := HLN.out; omega) (by have := HFY.out; omega))
        clear hb8
        go_wp2_with fail
        refine HO3.out.mono ?_
        clear HO3
        rintro e w9 ⟨hb9, hor⟩
        have HY9 := Lib.hid (HY8.out.below hb9)
        have HL9 := Lib.hid (bl_trans HL8.out hb9)
        clear hb9
        rcases HKIND.out with ⟨e3, ey, hmo⟩ | ⟨e0, hpy⟩
        · obtain ⟨v9, v10, he⟩ : ∃ v9 v10, e = .returned (.tuple #[v9, v10]) := by
            rcases hor with ⟨h1, _⟩ | ⟨pp, np, cp, yy, _, h1, _⟩
            · exact ⟨_, _, h1⟩
            · exact ⟨_, _, h1⟩
          subst he
          subst e3
          clear hor ey hmo
          go_wp2
          go_ret
          exact ⟨rfl, HL9.out⟩
        · subst e0
          have HE2 : Hid (∃ (me : Option Addr) (mc : Nat) (ms : List SV), e = .returned (.tuple #[.slice me mn mc, .int .i64 0]) ∧ mn = ms.length ∧ SlS w9 me ms ∧ rowsV ms = rowsV ys) := by
            have hfew := hpy.few (by rw [rowsV_length, ← HLN.out]; exact hl60)
            rcases hor with ⟨_, h1⟩ | ⟨pp, np, cp, yy, _, h1, h2, h3, h4, h5, h6, _⟩
            · exact absurd h1 hfew
            · have h7 := hpy.again h5
              have h8 : np = mn := by rw [h2, HLN.out, ← rowsV_length yy, h7, rowsV_length]
              subst h8
              exact ⟨pp, cp, yy, h1, h2, h6, h7⟩
          clear hor hpy
          obtain ⟨ne, nc, ns, rfl, hnn, hns, hnr⟩ := HE2.out
          clear HE2
          have HSAME := Lib.hid (sameRows_eq ne le nc lc mn ns ys w9 hnn hnr hns HY9.out (by rw [← rowsV_flat, hnr, rowsV_flat]; have := HFY.out; omega) (by omega))
          clear hnn hns hnr
          go_wp2_with fail
          refine HSAME.out.mono ?_
          clear HSAME
          rintro e w10 ⟨rfl, hb10⟩
          have HL10 := Lib.hid (bl_trans HL9.out hb10)
          clear hb10
          go_wp2
          go_ret
          exact ⟨rfl, HL10.out⟩
    | some ad =>
      obtain ⟨v1, w3, hr1, ho1, hg1⟩ := run_joinD HO1.out (HX.out.below (bl_trans HB2.out HL0.out)) (k := k) (c := c) (by rw [← HM.out]; exact hkm) (by rw [← HM.out]; omega) (by have := HM.out; omega) (by rw [HBE.out]; exact HL0.out.size) HM.out
      have HL1 : Hid (Below w2.heap.size w2 w3) := by
        have h := HL0.out.grown hg1 HL0.out.size (fun k hk => by have := (HO1.out.lt k hk).1; have := HBE.out; omega)
        exact h
      obtain ⟨v2, w4, hr2, ho2, hg2⟩ := run_joinT (c := c) ho1 (HX.out.below (bl_trans HB2.out HL1.out)) (k := k) (by rw [← HM.out]; exact hkm) (by omega) (by rw [HBE.out]; exact HL1.out.size)
      have HL2 : Hid (Below w2.heap.size w2 w4) := by
        have h := HL1.out.grown hg2 HL1.out.size (fun k hk => by have := (ho1.lt k hk).1; have := HBE.out; omega)
        exact h
      have HOW : Hid (w4.ownsRow B 31 1 v2 m ((xs.drop k ++ xs.take k).map svV)) := by
        show World.ownsRow _ _ _ _ _ _ _
        rw [List.map_append]
        have e : 0 + (m - k) + k = m := by omega
        rw [e] at ho2
        exact ho2
      obtain ⟨po, co, rfl, hpc⟩ := rows_form HOW.out
      clear ho1 hg1 ho2 hg2 HO1 HL0 HL1
      go_wp2
      go_region_law (first | (refine step_append_known (by rfl) _ _ _ (by rfl) _ _ _ (by rfl) (by rfl) hr1 ?_) | (refine step_append_known (by rfl) _ _ _ (by rfl) _ _ _ (by rfl) (by rfl) hr2 ?_))
      clear hr1 hr2
      generalize (if c = k then some ad else some (ad.add k)) = pk
      go_wp2
      go_loopw [8, 9] (fun ov iv wr => ∃ (i : Nat) (po : Option Addr) (co : Nat) (nots : List SV), i ≤ m ∧ iv = .int .i64 (i : Nat) ∧ ov = .slice po (m + i) co ∧ Hid (AI xs k i m B w2 wr (.slice po (m + i) co) nots)) (fun _ iv _ => m - (intOf iv).toNat)
      case atStart => exact ⟨0, po, co, [], Nat.zero_le _, rfl, rfl, ⟨rfl, rfl, by rw [List.append_nil]; exact HOW.out, fun y hy => by simp at hy, HL2.out⟩⟩
      case round =>
        obtain ⟨i, po, co, nots, hi, rfl, rfl, HI⟩ := hrel
        rename World => wr
        clear HOW HL2
        by_cases him : i < m
        · have hiI : (i : Int) < m := by omega
          have hix : i < xs.length := by have := HM.out; omega
          have hlow : Below w.heap.size w wr := bl_trans HB2.out HI.out.low
          obtain ⟨b, o, hpe, hcell⟩ := sls_at (HX.out.below hlow) hix
          simp only [Option.some.injEq] at hpe
          subst hpe
          have hs0 : SlR wr (gs xs i).1 (gs xs i).2.2 := (HX.out.below hlow).1 _ (by rw [gs_get hix]; exact List.getElem_mem _)
          have HLE : Hid ((gs xs i).2.2.length ≤ 150) := by have := flat_one_le hix; have := HQ.out; show _ ≤ _; omega
          have HGR : Hid (gl (rowsV xs) i = (gs xs i).2.2) := rowsV_gl hix
          obtain ⟨pa, ca, la, hga⟩ : ∃ pa ca la, gs xs i = (pa, ca, la) := ⟨_, _, _, rfl⟩
          rw [hga] at hcell hs0 HLE HGR
          simp only at hcell hs0
          obtain ⟨na, hna⟩ : ∃ na, na = la.length := ⟨_, rfl⟩
          have HNT := Lib.hid (not_any pa ca na la (ng la) wr rfl hna hs0 (by have := HLE.out; simp only at this; omega))
          rw [← hna] at hcell
          clear hga hs0 hna hlow
          go_wp2_with fail
          refine HNT.out.mono ?_
          clear HNT
          rintro e w5 ⟨pn, cn', rfl, hon, hb5⟩
          obtain ⟨nl, hnl⟩ : ∃ nl, nl = (ng la).length := ⟨_, rfl⟩
          rw [← hnl]
          have HI5 := Lib.hid (HI.out.below hb5)
          have hB5 : B ≤ w5.heap.size := by have := HI5.out.low.size; have := HBE.out; omega
          have HB5 := Lib.hid hB5
          have HON : Hid (OwnR w5 B (svV (pn, cn', ng la)) (ng la)) := ownR_down hon (by have := HI.out.low.size; have := HBE.out; omega)
          have HSV : Hid (svV (pn, cn', ng la) = .slice pn nl cn') := by show _ = _; rw [hnl]; rfl
          have HROW := Lib.hid HI5.out.own
          clear hon hb5 hnl hcell
          go_wp2_with (at_builtin; refine wpList_append_lies _ rfl _ _ 22 rfl B 31 i1 (.slice none 0 0) 1 24 Try.underlying22 ginf gz0 gz1 gz2 rfl (by decide) (.slice po (m + i) co) (m + i) _ rfl (HROW.out.alloc _) ⟨w5.heap.size, 0, none⟩ 1 1 [.slice pn nl cn'] rfl rfl (cells_one_q _ _ _) (by simp [Value.oneCell']) (by omega) (by simp only [maxLen]; omega) (by omega) (by have := HB5.out; simp; omega) (w5.heap.size + 1) (by simp) ?_; intro gg cap w6 hown6 hgrow6 hat6 hlt6; have HOW6 := Lib.hid hown6; have HGR6 := Lib.hid hgrow6; clear hown6 hgrow6 hat6 hlt6)
          go_wp2
          go_roundw
          case rel =>
            have h := HOW6.out
            rw [← HSV.out] at h
            exact ⟨i + 1, some ⟨gg, 0, none⟩, cap, nots ++ [(pn, cn', ng la)], by omega, by go_num, rfl, ai_next HI5.out HGR.out (by rw [rowsV_length]; exact hix) HON.out h (by rw [HSV.out]; exact HGR6.out) HBE.out⟩
          case measure => simp [intOf]; omega
        · have hiI : (m : Int) ≤ i := by omega
          have hie : i = m := by omega
          subst hie
          obtain ⟨pf, cf, ef, hpf⟩ := rows_form HI.out.own
          simp only [Value.slice.injEq] at ef
          obtain ⟨rfl, -, rfl⟩ := ef
          have hslx : SlS wr po ((xs.drop k ++ xs.take k) ++ nots) := HI.out.sls (HX.out.below (bl_trans HB2.out HI.out.low)) (by omega) HM.out hkm
          have hrv : rowsV ((xs.drop k ++ xs.take k) ++ nots) = ((rowsV xs).drop k ++ (rowsV xs).take k) ++ (rowsV xs).map ng := by
            rw [rowsV_append, rowsV_append, rowsV_take, rowsV_drop, HI.out.rows, List.take_of_length_le (l := rowsV xs) (i := i) (by rw [rowsV_length, ← HM.out]; exact Nat.le_refl _)]
          have hfl : (flat ((xs.drop k ++ xs.take k) ++ nots)).length ≤ 600 := by
            rw [← rowsV_flat, hrv, List.flatten_append, List.length_append]
            have h1 := ng_total (rowsV xs)
            have h2 : (((rowsV xs).drop k ++ (rowsV xs).take k).flatten).length = (rowsV xs).flatten.length := by
              rw [List.flatten_append, List.length_append, Nat.add_comm, ← List.length_append, ← List.flatten_append, List.take_append_drop]
            have h3 := rowsV_flat xs
            have h4 := rowsV_length xs
            have h5 := HQ.out
            have h6 := HM.out
            rw [h3, rowsV_length] at h1
            rw [h3] at h2
            omega
          have hll : ((xs.drop k ++ xs.take k) ++ nots).length = i + i := by
            rw [List.length_append, HI.out.len, List.length_append, List.length_drop, List.length_take]
            have := HM.out
            omega
          have HO2 := Lib.hid (partsOf_any po co (i + i) _ wr hll.symm hpf hslx (by omega) (by omega))
          have HRV := Lib.hid hrv
          have HYW := Lib.hid (HYS.out.below (by rw [← HBE.out]; exact (show Below B w2 wr by rw [HBE.out]; exact HI.out.low) : Below w2.heap.size w2 wr))
          have HLW := Lib.hid (bl_trans HB2.out HI.out.low)
          clear hslx hrv hfl hll hpf
          go_wp2_with fail
          refine HO2.out.mono ?_
          clear HO2 HI
          rintro e w7 ⟨hb7, hor⟩
          have HY7 := Lib.hid (HYW.out.below hb7)
          have HL7 := Lib.hid (bl_trans HLW.out hb7)
          have HE : Hid (∃ (me : Option Addr) (mn mc : Nat) (ms : List SV), e = .returned (.tuple #[.slice me mn mc, .int .i64 es]) ∧ mn = ms.length ∧ SlS w7 me ms ∧ rowsV ms = rowsV ys) := by
            rw [HRV.out] at hor
            have hal := other_alike (rowsV xs) k
            rcases HKIND.out with ⟨e3, ey, hmo⟩ | ⟨e0, hpy⟩
            · have hmo2 := hmo.cong (T := ((rowsV xs).drop k ++ (rowsV xs).take k) ++ (rowsV xs).map ng) fun a b ha hb => (hal a b ha hb).symm
              rcases hor with ⟨h1, _⟩ | ⟨pp, np, cp, yy, _, h1, h2, h3, h4, h5, _⟩
              · exact ⟨none, 0, 0, [], by rw [h1, e3], rfl, ⟨fun x hx => by simp at hx, .inl rfl⟩, by rw [ey]⟩
              · rw [HRV.out] at h5
                have h6 := hmo2.not h5
                rw [rowsV_length] at h6
                exact absurd h4 (by omega)
            · have hpo := hpy.cong (T := ((rowsV xs).drop k ++ (rowsV xs).take k) ++ (rowsV xs).map ng) fun a b ha hb => (hal a b ha hb).symm
              rcases hor with ⟨_, h1⟩ | ⟨pp, np, cp, yy, _, h1, h2, h3, h4, h5, h6, _⟩
              · have h6 := h1.not hpo
                rw [rowsV_length] at h6
                have := HLN.out
                exact absurd h6 (by omega)
              · rw [HRV.out] at h5
                exact ⟨pp, np, cp, yy, by rw [h1, e0], h2, h6, Parts.one h5 hpo⟩
          clear hor hb7
          obtain ⟨me, mn, mc, ms, rfl, hmn, hms, hmr⟩ := HE.out
          clear HE
          have hmn2 : mn = ln := by rw [hmn, HLN.out, ← rowsV_length ms, hmr, rowsV_length]
          subst hmn2
          have HSAME := Lib.hid (sameRows_eq le me lc mc mn ys ms w7 HLN.out hmr.symm HY7.out hms (by have := HFY.out; omega) (by omega))
          clear hmn hms hmr
          go_wp2_with fail
          refine HSAME.out.mono ?_
          clear HSAME
          rintro e w8 ⟨rfl, hb8⟩
          have HY8 := Lib.hid (HY7.out.below hb8)
          have HL8 := Lib.hid (bl_trans HL7.out hb8)
          have HO3 := Lib.hid (partsOf_any le lc mn ys w8 HLN.out HLC.out HY8.out (by have := HLN.out; omega) (by have := HFY.out; omega))
          clear hb8
          go_wp2_with fail
          refine HO3.out.mono ?_
          clear HO3
          rintro e w9 ⟨hb9, hor⟩
          have HY9 := Lib.hid (HY8.out.below hb9)
          have HL9 := Lib.hid (bl_trans HL8.out hb9)
          clear hb9
          rcases HKIND.out with ⟨e3, ey, hmo⟩ | ⟨e0, hpy⟩
          · obtain ⟨v9, v10, he⟩ : ∃ v9 v10, e = .returned (.tuple #[v9, v10]) := by
              rcases hor with ⟨h1, _⟩ | ⟨pp, np, cp, yy, _, h1, _⟩
              · exact ⟨_, _, h1⟩
              · exact ⟨_, _, h1⟩
            subst he
            subst e3
            clear hor ey hmo
            go_wp2
            go_ret
            exact ⟨rfl, HL9.out⟩
          · subst e0
            have HE2 : Hid (∃ (me : Option Addr) (mc : Nat) (ms : List SV), e = .returned (.tuple #[.slice me mn mc, .int .i64 0]) ∧ mn = ms.length ∧ SlS w9 me ms ∧ rowsV ms = rowsV ys) := by
              have hfew := hpy.few (by rw [rowsV_length, ← HLN.out]; exact hl60)
              rcases hor with ⟨_, h1⟩ | ⟨pp, np, cp, yy, _, h1, h2, h3, h4, h5, h6, _⟩
              · exact absurd h1 hfew
              · have h7 := hpy.again h5
                have h8 : np = mn := by rw [h2, HLN.out, ← rowsV_length yy, h7, rowsV_length]
                subst h8
                exact ⟨pp, cp, yy, h1, h2, h6, h7⟩
            clear hor hpy
            obtain ⟨ne, nc, ns, rfl, hnn, hns, hnr⟩ := HE2.out
            clear HE2
            have HSAME := Lib.hid (sameRows_eq ne le nc lc mn ns ys w9 hnn hnr hns HY9.out (by rw [← rowsV_flat, hnr, rowsV_flat]; have := HFY.out; omega) (by omega))
            clear hnn hns hnr
            go_wp2_with fail
            refine HSAME.out.mono ?_
            clear HSAME
            rintro e w10 ⟨rfl, hb10⟩
            have HL10 := Lib.hid (bl_trans HL9.out hb10)
            clear hb10
            go_wp2
            go_ret
            exact ⟨rfl, HL10.out⟩
end Go.Proofs.Ytkcjfgkfhjanpaa
