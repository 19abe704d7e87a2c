/- Rows joined: numbers, ranges, nodes; the walks of copied at ranges and at numbers. -/
/- The walk of moved: nodes in memory of their own, their kids so much further on. -/
import Derived.Test.YtjpccmiaimkmbaaGreatLb

namespace Go.Proofs.YtjpccmiaimkmbaaGreat
open Go.RowKit Tnr Tnt

theorem enc_one2 {a : List R} : ∀ u ∈ a.flatMap encR, Value.oneCell' u = true := by
  intro u hu
  rw [List.mem_flatMap] at hu
  obtain ⟨d, _, hd⟩ := hu
  unfold encR at hd
  simp only [List.mem_cons, List.not_mem_nil, or_false] at hd
  rcases hd with rfl | rfl <;> rfl
theorem encN_one {a : List NV} : ∀ u ∈ a.flatMap encN, Value.oneCell' u = true := by
  intro u hu
  rw [List.mem_flatMap] at hu
  obtain ⟨d, _, hd⟩ := hu
  unfold encN at hd
  simp only [List.mem_cons, List.not_mem_nil, or_false] at hd
  rcases hd with rfl | rfl | rfl | rfl | rfl | rfl | rfl | rfl | rfl <;> rfl
theorem run_joinX {Ts T ty : TypeId} {i0 : TypeInfo} {z : Value} {size bytes : Nat} (ht : Tryz.prog.underlying Ts = some (.slice T)) (hi : Tryz.prog.info? T = some i0) (hz : i0.zero = some z) (hsz : i0.size = size) (hby : i0.bytes = bytes) (hzs : z.cells.size = size) (h0 : 0 < size) (hb88 : bytes ≤ 88)
    {w : World} {B n m cq : Nat} {v : Value} {xs news : List Value} {q : Option Addr} (ho : w.ownsRow B T size v n xs) (hl : news.length = m * size) (hs : m = 0 ∨ ∃ b off, q = some ⟨b, off, none⟩ ∧ ∀ j u, news[j]? = some u → w.cell? ⟨b, off + j, none⟩ = some u) (hq : q = none → cq = 0)
    (h1 : ∀ u ∈ news, u.oneCell' = true) (hlim : n + m ≤ 1000000000000) (hB : B ≤ w.heap.size) :
    ∃ v' w', (Builtin.append_ #[Ts, Ts] ty #[v, .slice q m cq]).run Tryz.prog w = .ok v' w' ∧ w'.ownsRow B T size v' (n + m) (xs ++ news) ∧ w.grownBy w' v.ownBlock := by
  cases q with
  | none =>
    have := hq rfl
    subst this
    have hm : m = 0 := by
      rcases hs with h | ⟨b, off, h, _⟩
      · exact h
      · cases h
    subst hm
    have hn : news = [] := List.eq_nil_of_length_eq_zero (by omega)
    subst hn
    have hrun := run_append_owned_none (P := Tryz.prog) (w := w) B Ts ty T i0 size ht hi v n xs ho
    exact ⟨v, w, hrun, by rw [List.append_nil]; exact ho, World.grownBy.refl _ _⟩
  | some ad =>
    have hn : ∀ j u, news[j]? = some u → w.cell? (ad.add j) = some u := by
      rcases hs with h | ⟨b, off, h, hc⟩
      · subst h
        have hn : news = [] := List.eq_nil_of_length_eq_zero (by omega)
        subst hn; intro j u hu; simp at hu
      · simp only [Option.some.injEq] at h
        subst h
        intro j u hu
        have e : (⟨b, off, none⟩ : Addr).add j = ⟨b, off + j, none⟩ := by simp [Addr.add]
        rw [e]; exact hc j u hu
    have hbb : (n + m) * bytes ≤ 140737488355328 := by
      have : (n + m) * bytes ≤ (n + m) * 88 := Nat.mul_le_mul_left _ hb88
      omega
    obtain ⟨v', w', h1, h2, h3, _⟩ := run_append_own (P := Tryz.prog) (w := w) B Ts ty T i0 z size bytes ht hi hz hsz hby hzs h0 v n xs ho ad m cq news hl hn h1 (by simp only [maxLen]; omega) hbb hB
    exact ⟨v', w', h1, h2, h3⟩
theorem slr_news {w : World} {p : Option Addr} {l : List R} (h : SlR w p l) : l.length = 0 ∨ ∃ b off, p = some ⟨b, off, none⟩ ∧ ∀ j u, (l.flatMap encR)[j]? = some u → w.cell? ⟨b, off + j, none⟩ = some u := by
  rcases h with h | ⟨b, off, h1, h2⟩
  · left; rw [h]; rfl
  · refine .inr ⟨b, off, h1, fun j u hu => ?_⟩
    have hj : j < l.length * 2 := by rw [← encs_length]; exact (List.getElem?_eq_some_iff.1 hu).1
    obtain ⟨e1, e2⟩ := encs_at l (j / 2) (by omega)
    obtain ⟨c1, c2⟩ := h2 (j / 2) (by omega)
    rcases Nat.mod_two_eq_zero_or_one j with hm | hm
    · have e : j = j / 2 * 2 := by omega
      rw [e] at hu ⊢
      rw [hu] at e1; rw [Option.some.inj e1]; exact c1
    · have e : j = j / 2 * 2 + 1 := by omega
      rw [e] at hu ⊢
      rw [hu] at e2; rw [Option.some.inj e2]; exact c2
theorem slz_news {w : World} {p : Option Addr} {l : List Int} (h : SlZ w p l) : l.length = 0 ∨ ∃ b off, p = some ⟨b, off, none⟩ ∧ ∀ j u, (l.map (Value.int .i64))[j]? = some u → w.cell? ⟨b, off + j, none⟩ = some u := by
  rcases h with h | ⟨b, off, h1, h2⟩
  · left; rw [h]; rfl
  · refine .inr ⟨b, off, h1, fun j u hu => ?_⟩
    rw [List.getElem?_map] at hu
    obtain ⟨x, hx, rfl⟩ := Option.map_eq_some_iff.1 hu
    have hj := (List.getElem?_eq_some_iff.1 hx).1
    rw [h2 j hj, gz_get hj, (List.getElem?_eq_some_iff.1 hx).2]
theorem sln_news {w : World} {p : Option Addr} {l : List NV} (h : SlN w p l) : l.length = 0 ∨ ∃ b off, p = some ⟨b, off, none⟩ ∧ ∀ j u, (l.flatMap encN)[j]? = some u → w.cell? ⟨b, off + j, none⟩ = some u := by
  rcases h.cells with h | ⟨b, off, h1, h2⟩
  · left; rw [h]; rfl
  · refine .inr ⟨b, off, h1, fun j u hu => ?_⟩
    have hj : j < l.length * 9 := by rw [← encN_length]; exact (List.getElem?_eq_some_iff.1 hu).1
    have hi : j / 9 < l.length := by omega
    have e : j = j / 9 * 9 + j % 9 := by omega
    have hr : j % 9 < 9 := Nat.mod_lt _ (by decide)
    obtain ⟨c0, c1, c2, c3, c4, c5, c6, c7, c8⟩ := h2 (j / 9) hi
    rw [e] at hu ⊢
    rw [encN_at l _ _ hi hr] at hu
    generalize hrr : j % 9 = r at hu hr ⊢
    rw [← Nat.add_assoc]
    match r, hr with
    | 0, _ => rw [← Option.some.inj hu]; exact c0
    | 1, _ => rw [← Option.some.inj hu]; exact c1
    | 2, _ => rw [← Option.some.inj hu]; exact c2
    | 3, _ => rw [← Option.some.inj hu]; exact c3
    | 4, _ => rw [← Option.some.inj hu]; exact c4
    | 5, _ => rw [← Option.some.inj hu]; exact c5
    | 6, _ => rw [← Option.some.inj hu]; exact c6
    | 7, _ => rw [← Option.some.inj hu]; exact c7
    | 8, _ => rw [← Option.some.inj hu]; exact c8
theorem int_one {a : List Int} : ∀ u ∈ a.map (Value.int .i64), Value.oneCell' u = true := by
  intro u hu
  obtain ⟨x, _, rfl⟩ := List.mem_map.1 hu
  rfl

theorem wpList_append_run {P : Program} {w w' : World} {ops : Array Oper} {rest : List Oper} {o : Oper} {a : Act} {Q : Exit → Act → World → Prop} (hw : Region.wanted o (yielded ops a.tmps) = true) (s x : Operand) (t : TypeId)
    (ho : o.op = .call { callee := .builtin .append, args := #[s, x], argTypes := #[t, t] }) (v u v' : Value) (hs : a.eval s = v) (hx : a.eval x = u)
    (hrun : (Builtin.append_ #[t, t] o.type #[v, u]).run P w = .ok v' w') (h : wpList P ops Q rest (a.put o.dst v') w') : wpList P ops Q (o :: rest) a w := by
  refine wpList_step fun K hK => ?_
  simp only [hw, if_true]
  unfold Oper.wp
  simp [execOp, ho, resolve, invoke, builtin, hs, hx, hrun, Result.andThen]
  exact hK _ _ h


set_option maxHeartbeats 800000 in
set_option maxRecDepth 100000 in
theorem copyR_any (p : Option Addr) (c n : Nat) (l : List R) (w : World) (hn : n = l.length) (hp : SlR w p l) (hpn : p = none → c = 0) (hl : l.length ≤ 1000000000) :
    Calls Tryz.prog 37 #[.slice p n c] w fun e w' => ∃ q d, e = .returned (.slice q n d) ∧ OwnR w' w.heap.size (.slice q n d) l ∧ Below w.heap.size w w' := by
  obtain ⟨i0, hinf, hz0, hz1, hz2⟩ := info_parts info_range
  obtain ⟨v', w', hrun, hown, hg⟩ := run_joinX (Ts := 23) (ty := 23) Tryz.underlying23 hinf hz0 hz1 hz2 rfl (by decide) (by decide) (ownR_nil w w.heap.size) (encs_length l) (slr_news hp) hpn enc_one2 (by simp; omega) (Nat.le_refl _)
  have ho : OwnR w' w.heap.size v' l := by unfold OwnR; simpa using hown
  obtain ⟨q, d, rfl, _⟩ := ownR_form ho
  rw [← hn] at hrun ho
  have HO := Lib.hid ho
  have HB := Lib.hid ((Below.refl w.heap.size w).grown hg (Nat.le_refl _) (by simp [Value.ownBlock]))
  have HRUN := Lib.hid hrun
  clear hrun hown hg hp hpn hn hl ho
  go_enter Tryz.func37, Tryz.ntmps37
  go_wp2_with (at_builtin; refine wpList_append_run (by rfl) _ _ 23 rfl _ _ _ rfl rfl HRUN.out ?_)
  go_ret
  exact ⟨q, d, rfl, HO.out, HB.out⟩
set_option maxHeartbeats 800000 in
set_option maxRecDepth 100000 in
theorem copyZ_any (p : Option Addr) (c n : Nat) (l : List Int) (w : World) (hn : n = l.length) (hp : SlZ w p l) (hpn : p = none → c = 0) (hl : l.length ≤ 1000000000) :
    Calls Tryz.prog 69 #[.slice p n c] w fun e w' => ∃ q d, e = .returned (.slice q n d) ∧ OwnZ w' w.heap.size (.slice q n d) l ∧ Below w.heap.size w w' := by
  obtain ⟨i0, hinf, hz0, hz1, hz2⟩ := info_parts info_intz
  obtain ⟨v', w', hrun, hown, hg⟩ := run_joinX (Ts := 24) (ty := 24) Tryz.underlying24 hinf hz0 hz1 hz2 rfl (by decide) (by decide) (ownZ_nil w w.heap.size) (by simp) (slz_news hp) hpn int_one (by simp; omega) (Nat.le_refl _)
  have ho : OwnZ w' w.heap.size v' l := by unfold OwnZ; simpa using hown
  obtain ⟨q, d, rfl, _⟩ := ownZ_form ho
  rw [← hn] at hrun ho
  have HO := Lib.hid ho
  have HB := Lib.hid ((Below.refl w.heap.size w).grown hg (Nat.le_refl _) (by simp [Value.ownBlock]))
  have HRUN := Lib.hid hrun
  clear hrun hown hg hp hpn hn hl ho
  go_enter Tryz.func69, Tryz.ntmps69
  go_wp2_with (at_builtin; refine wpList_append_run (by rfl) _ _ 24 rfl _ _ _ rfl rfl HRUN.out ?_)
  go_ret
  exact ⟨q, d, rfl, HO.out, HB.out⟩
end Go.Proofs.YtjpccmiaimkmbaaGreat


namespace Go.Proofs.YtjpccmiaimkmbaaGreat
open Go.RowKit Tnr Tnt

theorem nine {w : World} {b : Nat} {T : TypeId} {c0 c1 c2 c3 c4 c5 c6 c7 c8 : Value} (h : Bx w b T #[c0, c1, c2, c3, c4, c5, c6, c7, c8]) : w.cell? ⟨b, 0, none⟩ = some c0 ∧ w.cell? ⟨b, 1, none⟩ = some c1 ∧ w.cell? ⟨b, 2, none⟩ = some c2 ∧ w.cell? ⟨b, 3, none⟩ = some c3 ∧ w.cell? ⟨b, 4, none⟩ = some c4 ∧ w.cell? ⟨b, 5, none⟩ = some c5 ∧ w.cell? ⟨b, 6, none⟩ = some c6 ∧ w.cell? ⟨b, 7, none⟩ = some c7 ∧ w.cell? ⟨b, 8, none⟩ = some c8 :=
  ⟨h.cell rfl, h.cell rfl, h.cell rfl, h.cell rfl, h.cell rfl, h.cell rfl, h.cell rfl, h.cell rfl, h.cell rfl⟩
theorem gn_snoc_map {xs : List NV} {f : Nd → Nd} {k : Nat} (h : k < xs.length) : (xs.take (k + 1)).map (fun x => f x.nd) = (xs.take k).map (fun x => f x.nd) ++ [f (gn xs k).nd] := by
  rw [take_gn h, List.map_append]; rfl
theorem gz_take {l : List Int} {k : Nat} (h : k < l.length) : l.take (k + 1) = l.take k ++ [gz l k] := by
  rw [List.take_add_one, List.getElem?_eq_getElem h, gz_get h]; rfl
def mvd (d : Int) (l : List Int) (j : Nat) : List Int := (l.take j).map (fun k => w64 (k + d)) ++ l.drop j
theorem mvd_length (d : Int) (l : List Int) (j : Nat) (h : j ≤ l.length) : (mvd d l j).length = l.length := by
  simp [mvd]; omega
theorem mvd_zero (d : Int) (l : List Int) : mvd d l 0 = l := by simp [mvd]
theorem mvd_end (d : Int) (l : List Int) : mvd d l l.length = l.map fun k => w64 (k + d) := by simp [mvd]
theorem mvd_at {d : Int} {l : List Int} {j : Nat} (h : j < l.length) : gz (mvd d l j) j = gz l j := by
  rw [gz_get (by rw [mvd_length _ _ _ (by omega)]; exact h), gz_get h]
  unfold mvd
  rw [List.getElem_append_right (by simp; omega)]
  simp [show min j l.length = j by omega]
theorem mvd_set {d : Int} {l : List Int} {j : Nat} (h : j < l.length) : (mvd d l j).set j (w64 (gz l j + d)) = mvd d l (j + 1) := by
  unfold mvd
  rw [List.set_append_right _ _ (by simp; omega), gz_take h, List.map_append, List.append_assoc]
  congr 1
  rw [show j - ((l.take j).map fun k => w64 (k + d)).length = 0 by simp; omega, List.drop_eq_getElem_cons h]
  rfl
theorem ownZ_set {w : World} {B g c n : Nat} {l : List Int} (h : OwnZ w B (.slice (some ⟨g, 0, none⟩) n c) l) (hn : n = l.length) (j : Nat) (x : Int) : OwnZ (w.setCell ⟨g, j, none⟩ (.int .i64 x)) B (.slice (some ⟨g, 0, none⟩) n c) (l.set j x) := by
  subst hn
  have := (World.ownsRow.stored h j (.int .i64 x)).1
  unfold OwnZ
  rw [List.length_set, List.map_set]
  exact this
theorem ownZ_at {w : World} {B n c : Nat} {q : Option Addr} {l : List Int} (h : OwnZ w B (.slice q n c) l) (hn : n = l.length) {j : Nat} (hj : j < n) :
    ∃ g, q = some ⟨g, 0, none⟩ ∧ B ≤ g ∧ w.cell? ⟨g, j, none⟩ = some (.int .i64 (gz l j)) ∧ w.frozen? ⟨g, j, none⟩ = false ∧ ∃ cs, w.heap[g]? = some (.cells cs 3 (0, 0)) := by
  subst hn
  have h' := h
  rcases h.2 with ⟨e, hn⟩ | ⟨g, cap, cur, e, hb, hg, hnc, hcm, hcs, htake⟩
  · omega
  · simp only [Value.slice.injEq, true_and] at e
    obtain ⟨rfl, rfl⟩ := e
    unfold OwnZ at h'
    refine ⟨g, rfl, hb, ?_, by simp [World.frozen?, hg], cur, hg⟩
    rw [h'.cellAt j (by omega), List.getElem?_map, List.getElem?_eq_getElem hj, gz_get hj]; rfl

set_option maxHeartbeats 3200000 in
set_option maxRecDepth 100000 in
theorem moved_any (p : Option Addr) (c n : Nat) (xs : List NV) (d : Int) (w : World) (hn : n = xs.length) (hp : SlN w p xs) (hl : n ≤ 1000000) (hk : ∀ x ∈ xs, x.nd.kids.length ≤ 1000000 ∧ x.nd.set.length ≤ 1000000) :
    Calls Tryz.prog 36 #[.slice p n c, .int .i64 d] w fun e w' => ∃ q cq ys, e = .returned (.slice q n cq) ∧ OwnN w' w.heap.size (.slice q n cq) ys ∧ ys.map NV.nd = xs.map (fun x => mv d x.nd) ∧ Below w.heap.size w w' := by
  obtain ⟨i0, hinf, hz0, hz1, hz2⟩ := info_parts info_node
  have HP := Lib.hid hp
  have HK := Lib.hid hk
  have hnI : (n : Int) ≤ 1000000 := by omega
  have HN := Lib.hid hn
  clear hp hk hn
  go_enter Tryz.func36, Tryz.ntmps36
  go_wp2_with (at_make; refine wpList_make_own _ rfl _ _ 63 rfl w.heap.size 28 i0 (.agg #[.int .u8 0, .slice none 0 0, .slice none 0 0, .int .i64 0, .int .i64 0, .int .i64 0, .int .u8 0, .int .u8 0, .bool false]) 9 Tryz.underlying63 hinf hz0 hz1 .i64 .i64 _ n rfl rfl ?m1 ?m3 ?m4 ?m5 ?_)
  case m1 => rfl
  case m3 => rw [hz2]; omega
  case m4 => simp only [maxLen]; omega
  case m5 => exact Nat.le_refl _
  intro w2 hown2 hgrow2
  have hb2 : Below w.heap.size w w2 := (Below.refl _ _).grown hgrow2 (Nat.le_refl _) (by simp)
  have HO2 : Hid (OwnN w2 w.heap.size (.slice (some ⟨w.heap.size, 0, none⟩) 0 n) []) := ⟨hown2, fun _ h => by simp at h, fun _ h => by simp at h⟩
  have HB2 := Lib.hid hb2
  clear hown2 hgrow2 hb2
  go_wp2
  go_loopw [5, 14] (fun ov iv wr => ∃ (k : Nat) (q : Option Addr) (cq : Nat) (ys : List NV), k ≤ n ∧ ov = .slice q k cq ∧ iv = .int .i64 (k : Nat) ∧ Hid (k = ys.length) ∧ Hid (OwnN wr w.heap.size (.slice q k cq) ys) ∧ Hid (ys.map NV.nd = (xs.take k).map fun x => mv d x.nd) ∧ Hid (Below w.heap.size w wr)) (fun _ iv _ => n - (intOf iv).toNat)
  case atStart => exact ⟨0, _, _, [], Nat.zero_le _, rfl, rfl, rfl, HO2.out, rfl, HB2.out⟩
  case round =>
    obtain ⟨k, q, cq, ys, hk, rfl, rfl, HKL, HO, HM, HB⟩ := hrel
    rename World => wr
    by_cases hkn : k < n
    · have hkx : k < xs.length := by have := HN.out; omega
      obtain ⟨bp, op, rfl, ⟨c0, c1, c2, c3, c4, c5, c6, c7, c8⟩, hin⟩ := (HP.out.below HB.out).at hkx
      have hkI : (k : Int) < n := by omega
      obtain ⟨hkl, hsl⟩ := HK.out (gn xs k) (gn_mem hkx)
      obtain ⟨x, hx⟩ : ∃ x, x = gn xs k := ⟨_, rfl⟩
      rw [← hx] at c0 c1 c2 c3 c4 c5 c6 c7 c8 hin hkl hsl
      obtain ⟨ls, hls⟩ : ∃ n, n = x.nd.set.length := ⟨_, rfl⟩
      obtain ⟨lk, hlk⟩ : ∃ n, n = x.nd.kids.length := ⟨_, rfl⟩
      rw [← hls] at c1 hsl
      rw [← hlk] at c2 hkl
      obtain ⟨bx, hbx⟩ : ∃ b, b = wr.heap.size := ⟨_, rfl⟩
      obtain ⟨w1, hw1⟩ : ∃ W, W = wr.alloc (.cells #[.int .u8 x.nd.kind, .slice x.ps ls x.cs, .slice x.pk lk x.ck, .int .i64 x.nd.group, .int .i64 x.nd.mn, .int .i64 x.nd.mx, .int .u8 x.nd.mode, .int .u8 x.nd.spot, .bool x.nd.neg] 28) := ⟨_, rfl⟩
      have hb1 : Below wr.heap.size wr w1 := by rw [hw1]; exact bl_alloc _ _
      have hbox : Bx w1 bx 28 #[.int .u8 x.nd.kind, .slice x.ps ls x.cs, .slice x.pk lk x.ck, .int .i64 x.nd.group, .int .i64 x.nd.mn, .int .i64 x.nd.mx, .int .u8 x.nd.mode, .int .u8 x.nd.spot, .bool x.nd.neg] := by rw [hw1, hbx]; exact Bx.new _ _ _
      have hs1 : w1.heap.size = bx + 1 := by rw [hw1, hbx]; simp
      have HIN := Lib.hid (hin.below hb1)
      have HCR := Lib.hid (fun (W : World) (hW : Below w1.heap.size w1 W) => copyR_any x.ps x.cs ls x.nd.set W hls (HIN.out.set.below hW) HIN.out.sn (by omega))
      have HCZ := Lib.hid (fun (W : World) (hW : Below w1.heap.size w1 W) => copyZ_any x.pk x.ck lk x.nd.kids W hlk (HIN.out.kids.below hW) HIN.out.kn (by omega))
      have HBX := Lib.hid hbox
      have HB1 := Lib.hid hb1
      have HS1 := Lib.hid hs1
      have HX := Lib.hid hx
      have HL := Lib.hid (And.intro hls hlk)
      have HW1 := Lib.hid hw1
      have HBB := Lib.hid hbx
      have HLK : Hid (lk ≤ 1000000) := hkl
      clear hin hkl hsl hx hls hlk hb1 hbox hs1 hw1 hbx hkn hkx
      go_wp2
      rw [show wr.heap.size = bx from HBB.out.symm, ← HW1.out]
      obtain ⟨d0, d1, d2, d3, d4, d5, d6, d7, d8⟩ := nine HBX.out
      have fz := HBX.out.free
      clear c0 c1 c2 c3 c4 c5 c6 c7 c8
      go_cut [] from 15 to 45 (fun wx => ∃ q5 e5 q6 e6, Hid (Bx wx bx 28 #[.int .u8 x.nd.kind, .slice q5 ls e5, .slice q6 lk e6, .int .i64 x.nd.group, .int .i64 x.nd.mn, .int .i64 x.nd.mx, .int .u8 x.nd.mode, .int .u8 x.nd.spot, .bool x.nd.neg]) ∧ Hid (OwnR wx wr.heap.size (.slice q5 ls e5) x.nd.set) ∧ Hid (OwnZ wx wr.heap.size (.slice q6 lk e6) x.nd.kids) ∧ Hid (Below wr.heap.size wr wx))
      case first =>
        go_region_with (first | (go_at_call 37; (with_reducible refine (HCR.out _ (bl_drew _)).mono ?_); rintro e w5 ⟨q5, e5, rfl, ho5, hb5⟩; have hb5' : Below w1.heap.size w1 w5 := bl_trans (bl_drew _) hb5; have hbx5 := HBX.out.below hb5'; obtain ⟨_, k1, k2, _⟩ := nine hbx5; have HO5 := Lib.hid ho5; have HBX5 := Lib.hid hbx5; have HB5 := Lib.hid hb5'; clear ho5 hb5 hb5' hbx5) | (go_at_call 69; (with_reducible refine (HCZ.out _ HB5.out).mono ?_); rintro e w6 ⟨q6, e6, rfl, ho6, hb6⟩; have hbx6 := HBX5.out.below hb6; have f61 := hbx6.free 1; have f62 := hbx6.free 2; obtain ⟨_, m1, m2, _⟩ := nine hbx6; have HO6 := Lib.hid ho6; have HBX6 := Lib.hid hbx6; have HB6 := Lib.hid hb6; clear ho6 hb6 hbx6))
        all_goals go_wp2_with fail
        all_goals go_meet
        all_goals
          have hz : wr.heap.size ≤ w1.heap.size := HB1.out.size
          have ho5 := ownR_below HO5.out HB6.out
          have e1 := HBX6.out.set 1 (.slice q5 ls e5)
          have e2 := e1.set 2 (.slice q6 lk e6)
          have hb := (bl_trans HB1.out (bl_trans HB5.out HB6.out))
          have ho5a : OwnR _ wr.heap.size _ _ := ownsRow_setCell_other (a := ⟨bx, 1, none⟩) (ownR_down ho5 hz) (ownR_ne ho5 HBX6.out (by decide)) (.slice q5 ls e5)
          have ho5b : OwnR _ wr.heap.size _ _ := ownsRow_setCell_other (a := ⟨bx, 2, none⟩) ho5a (ownR_ne ho5a e1 (by decide)) (.slice q6 lk e6)
          have ho6a : OwnZ _ wr.heap.size _ _ := ownsRow_setCell_other (a := ⟨bx, 1, none⟩) (ownZ_down HO6.out (Nat.le_trans hz HB5.out.size)) (row_ne HO6.out HBX6.out (by decide)) (.slice q5 ls e5)
          have ho6b : OwnZ _ wr.heap.size _ _ := ownsRow_setCell_other (a := ⟨bx, 2, none⟩) ho6a (row_ne ho6a e1 (by decide)) (.slice q6 lk e6)
          have hle : wr.heap.size ≤ bx := Nat.le_of_eq HBB.out.symm
          exact ⟨q5, e5, q6, e6, e2, ho5b, ho6b, (hb.setCell (p := ⟨bx, 1, none⟩) hle _).setCell (p := ⟨bx, 2, none⟩) hle _⟩
      case rest =>
        obtain ⟨q5, e5, q6, e6, HBX2, HO5, HO6, HB2⟩ := hcut
        have h2 := (nine HBX2.out).2.2.1
        go_wp2
        go_loopw [29] (fun jv wq => ∃ (j : Nat), j ≤ lk ∧ jv = .int .i64 (j : Nat) ∧ Hid (Bx wq bx 28 #[.int .u8 x.nd.kind, .slice q5 ls e5, .slice q6 lk e6, .int .i64 x.nd.group, .int .i64 x.nd.mn, .int .i64 x.nd.mx, .int .u8 x.nd.mode, .int .u8 x.nd.spot, .bool x.nd.neg]) ∧ Hid (OwnR wq wr.heap.size (.slice q5 ls e5) x.nd.set) ∧ Hid (OwnZ wq wr.heap.size (.slice q6 lk e6) (mvd d x.nd.kids j)) ∧ Hid (Below wr.heap.size wr wq)) (fun jv _ => lk - (intOf jv).toNat)
        case atStart => exact ⟨0, Nat.zero_le _, rfl, HBX2.out, HO5.out, by show OwnZ _ _ _ (mvd d x.nd.kids 0); rw [mvd_zero]; exact HO6.out, HB2.out⟩
        case round =>
          obtain ⟨j, hj, rfl, HBXq, HO5q, HO6q, HBq⟩ := hrel
          rename World => wq
          clear h2
          have hlkI : (lk : Int) ≤ 1000000 := by have := HLK.out; omega
          have hq2 := (nine HBXq.out).2.2.1
          by_cases hjk : j < lk
          · have hjx : j < x.nd.kids.length := by have := HL.out.2; omega
            have hlen : lk = (mvd d x.nd.kids j).length := by rw [mvd_length _ _ _ (by omega)]; exact HL.out.2
            obtain ⟨g, rfl, hgB, hgc, hgf, cs, hgh⟩ := ownZ_at HO6q.out hlen hjk
            rw [mvd_at hjx] at hgc
            have hjI : (j : Int) < lk := by omega
            have HLEN := Lib.hid hlen
            have HGB := Lib.hid hgB
            have HGH := Lib.hid hgh
            have HJX := Lib.hid hjx
            have HNE : Hid (bx ≠ g) := fun e => by
              have := HBXq.out
              unfold Bx at this
              rw [e, hgh] at this
              simp at this
            clear hlen hgB hgh hjx
            go_wp2
            go_roundw
            case rel =>
              refine ⟨j + 1, by omega, by go_num, HBXq.out.other (a := ⟨g, j, none⟩) HNE.out _, ownsRow_setCell_other (a := ⟨g, j, none⟩) HO5q.out (ownR_ne HO5q.out HGH.out (by decide)) _, ?_, HBq.out.setCell (p := ⟨g, j, none⟩) HGB.out _⟩
              have := ownZ_set HO6q.out HLEN.out j (w64 (gz x.nd.kids j + d))
              rw [mvd_set HJX.out, w64_wrap] at this
              exact this
            case measure => simp [intOf]; omega
          · obtain rfl : j = lk := by omega
            have hjI : (j : Int) ≤ j := by omega
            have hend : mvd d x.nd.kids j = x.nd.kids.map fun k => w64 (k + d) := by rw [HL.out.2]; exact mvd_end _ _
            rw [hend] at HO6q
            obtain ⟨h0, h1, h2, h3, h4, h5, h6, h7, h8⟩ := nine HBXq.out
            have hrow := ownN_row (HO.out.below HBq.out) HKL.out
            have HRO := Lib.hid hrow
            have HSZ := Lib.hid (show w.heap.size ≤ wq.heap.size from Nat.le_trans HB.out.size HBq.out.size)
            clear hrow hend
            go_wp2_with (at_builtin; refine wpList_append_own _ rfl _ _ 63 rfl w.heap.size 28 i0 (.agg #[.int .u8 0, .slice none 0 0, .slice none 0 0, .int .i64 0, .int .i64 0, .int .i64 0, .int .u8 0, .int .u8 0, .bool false]) 9 88 Tryz.underlying63 hinf hz0 hz1 hz2 rfl (by decide) (.slice q k cq) k _ rfl (HRO.out.alloc _) ⟨wq.heap.size, 0, none⟩ 1 1 [.int .u8 x.nd.kind, .slice q5 ls e5, .slice q6 j e6, .int .i64 x.nd.group, .int .i64 x.nd.mn, .int .i64 x.nd.mx, .int .u8 x.nd.mode, .int .u8 x.nd.spot, .bool x.nd.neg] rfl rfl ?k1 ?k2 ?k3 ?k4 ?k5 ?_)
            case k1 => exact cells_nine wq _ _
            case k2 => simp [Value.oneCell']
            case k3 => simp only [maxLen]; omega
            case k4 => omega
            case k5 => have := HSZ.out; simp; omega
            intro v5 w5 hown5 hgrow5 _
            have hlk2 : j = (x.nd.kids.map fun k => w64 (k + d)).length := by rw [List.length_map]; exact HL.out.2
            obtain ⟨y, hy⟩ : ∃ y : NV, y = ⟨mv d x.nd, q5, e5, q6, e6⟩ := ⟨_, rfl⟩
            have hey : encN y = [.int .u8 x.nd.kind, .slice q5 ls e5, .slice q6 j e6, .int .i64 x.nd.group, .int .i64 x.nd.mn, .int .i64 x.nd.mx, .int .u8 x.nd.mode, .int .u8 x.nd.spot, .bool x.nd.neg] := by
              rw [hy]; unfold encN mv; simp only; rw [← HL.out.1, ← hlk2]
            have hbl := bl_alloc wq (.cells #[.int .u8 x.nd.kind, .slice q5 ls e5, .slice q6 j e6, .int .i64 x.nd.group, .int .i64 x.nd.mn, .int .i64 x.nd.mx, .int .u8 x.nd.mode, .int .u8 x.nd.spot, .bool x.nd.neg] 28)
            have hbw : Below w.heap.size w wq := HB.out.trans (HBq.out.mono HB.out.size)
            have hO5 : OwnN w5 w.heap.size v5 (ys ++ [y]) := by
              refine OwnN.more ((HO.out.below HBq.out).below hbl) HKL.out ?_ ?_ (by rw [hey]; exact hown5) hgrow5
              · rw [hy]; show OwnR _ _ (.slice q5 x.nd.set.length e5) x.nd.set
                rw [← HL.out.1]; exact ownR_below (ownR_down HO5q.out HB.out.size) hbl
              · rw [hy]; show OwnZ _ _ (.slice q6 (x.nd.kids.map fun k => w64 (k + d)).length e6) (x.nd.kids.map fun k => w64 (k + d))
                rw [← hlk2]; exact ownZ_below (ownZ_down HO6q.out HB.out.size) hbl
            have hb5 : Below w.heap.size w w5 := (hbw.alloc hbw.size _).grown hgrow5 (by have := hbw.size; simp; omega) (fun g hg => (HRO.out.lt g hg).1)
            have hM5 : (ys ++ [y]).map NV.nd = (xs.take (k + 1)).map fun x => mv d x.nd := by
              rw [List.map_append, HM.out, gn_snoc_map (f := mv d) (by have := HN.out; omega), ← HX.out, hy]; rfl
            have hk5 : k + 1 = (ys ++ [y]).length := by rw [List.length_append, ← HKL.out]; rfl
            obtain ⟨q7, e7, rfl, _⟩ := hO5.form
            rw [← hk5] at hO5 ⊢
            have HO5 := Lib.hid hO5
            have HB5 := Lib.hid hb5
            have HM5 := Lib.hid hM5
            have HK5 := Lib.hid hk5
            clear hown5 hgrow5 hO5 hb5 hM5 hk5 hy hey hbl hbw h0 h1 h2 h3 h4 h5 h6 h7 h8
            go_wp2
            go_roundw
            case rel => exact ⟨k + 1, q7, e7, _, by omega, rfl, by go_num, HK5.out, HO5.out, HM5.out, HB5.out⟩
            case measure => simp [intOf]; omega
    · have hkI : (n : Int) ≤ k := by omega
      obtain rfl : k = n := by omega
      go_wp2
      go_ret
      refine ⟨q, cq, ys, rfl, HO.out, ?_, HB.out⟩
      rw [HM.out, List.take_of_length_le (by rw [← HN.out]; exact Nat.le_refl _)]
end Go.Proofs.YtjpccmiaimkmbaaGreat

