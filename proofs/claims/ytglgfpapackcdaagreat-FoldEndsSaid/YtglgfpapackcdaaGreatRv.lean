/- The walk of the document's sorted: numbers, rising, each once. -/
import Derived.Test.YtglgfpapackcdaaGreatRu
import Derived.Deep.RegionHeld3

namespace Go.Proofs.YtglgfpapackcdaaGreat
open Go.RowKit Tnr

def OwnI (w : World) (B : Nat) (v : Value) (l : List Int) : Prop := w.ownsRow B 3 1 v l.length (l.map (Value.int .i64))
theorem ownI_nil (w : World) (B : Nat) : OwnI w B (.slice none 0 0) [] := World.ownsRow_nil w B 3 1
theorem ownI_cell {w : World} {B : Nat} {g n cap : Nat} {l : List Int} (h : OwnI w B (.slice (some ⟨g, 0, none⟩) n cap) l) (hn : l.length = n) (i : Nat) (hi : i < n) :
    w.cell? ⟨g, i, none⟩ = some (.int .i64 (gi l i)) := by
  unfold OwnI at h
  rw [hn] at h
  rw [h.cellAt i (by omega)]
  unfold gi
  rw [List.getElem?_map, List.getD_eq_getElem?_getD, List.getElem?_eq_getElem (by omega)]; rfl
theorem ownI_below {w w' : World} {B : Nat} {v : Value} {l : List Int} (h : OwnI w B v l) (hb : Below w.heap.size w w') : OwnI w' B v l := by
  obtain ⟨h1, h2⟩ := h
  refine ⟨h1, ?_⟩
  rcases h2 with h2 | ⟨g, cap, cur, rfl, hg, hh, r⟩
  · exact .inl h2
  · exact .inr ⟨g, cap, cur, rfl, hg, by rw [hb.block g (lt_of_block hh)]; exact hh, r⟩
theorem ownI_form {w : World} {B : Nat} {v : Value} {l : List Int} (h : OwnI w B v l) : ∃ p c, v = .slice p l.length c ∧ l.length ≤ c ∧ c ≤ 9223372036854775807 ∧ (l ≠ [] → ∃ g, p = some ⟨g, 0, none⟩ ∧ B ≤ g) := by
  rcases h.2 with ⟨rfl, hn⟩ | ⟨g, cap, cur, rfl, hb, hg, hnc, hcm, hcs, htake⟩
  · have hl : l = [] := List.eq_nil_of_length_eq_zero hn
    subst hl
    exact ⟨none, 0, rfl, by simp, by omega, fun h => absurd rfl h⟩
  · exact ⟨_, _, rfl, hnc, by simpa [maxLen] using hcm, fun _ => ⟨g, rfl, hb⟩⟩
theorem ownI_sl {w : World} {B : Nat} {p : Option Addr} {n c : Nat} {l : List Int} (h : OwnI w B (.slice p n c) l) (hn : n = l.length) : SlI w p l := by
  by_cases h0 : l = []
  · exact .inl h0
  · obtain ⟨p', c', e, _, _, hp⟩ := ownI_form h
    simp only [Value.slice.injEq] at e
    obtain ⟨rfl, _, _⟩ := e
    obtain ⟨g, rfl, _⟩ := hp h0
    refine .inr ⟨g, 0, rfl, fun i hi => ?_⟩
    rw [Nat.zero_add]
    exact ownI_cell h hn.symm i (by omega)
theorem ownI_appended {w' : World} {B : Nat} {v' : Value} {l : List Int} {n : Nat} {x : Int} (hn : l.length = n) (h : w'.ownsRow B 3 1 v' (n + 1) (l.map (Value.int .i64) ++ [.int .i64 x])) : OwnI w' B v' (l ++ [x]) := by
  unfold OwnI
  rw [List.length_append, hn, List.map_append]
  exact h
theorem info_int : (Tryz.prog.info? 3).map (fun i => (i.zero, i.size, i.bytes)) = some (some (.int .i64 0), 1, 8) := by kernel_rfl
theorem sli_tail {w : World} {b off : Nat} {x : Int} {l : List Int} (h : SlI w (some ⟨b, off, none⟩) (x :: l)) : SlI w (some ⟨b, off + 1, none⟩) l := by
  rcases h with h | ⟨b', off', h1, h2⟩
  · simp at h
  · simp only [Option.some.injEq, Addr.mk.injEq, and_true] at h1
    obtain ⟨rfl, rfl⟩ := h1
    refine .inr ⟨b, off + 1, rfl, fun i hi => ?_⟩
    have := h2 (i + 1) (by simp; omega)
    rw [show off + (i + 1) = off + 1 + i by omega] at this
    rw [this]; unfold gi; rw [List.getD_cons_succ]
theorem sli_head {w : World} {p : Option Addr} {x : Int} {l : List Int} (h : SlI w p (x :: l)) : ∃ b off, p = some ⟨b, off, none⟩ ∧ w.cell? ⟨b, off, none⟩ = some (.int .i64 x) := by
  obtain ⟨b, off, h1, h2⟩ := sli_at h (k := 0) (by simp)
  exact ⟨b, off, h1, h2⟩
theorem gi_take2 {l : List Int} {n i : Nat} (hi : i < n) : gi (l.take n) i = gi l i := by
  unfold gi
  rw [List.getD_eq_getElem?_getD, List.getD_eq_getElem?_getD, List.getElem?_take, if_pos hi]
theorem gi_drop {l : List Int} {n i : Nat} : gi (l.drop n) i = gi l (n + i) := by
  unfold gi
  rw [List.getD_eq_getElem?_getD, List.getD_eq_getElem?_getD, List.getElem?_drop]
theorem sli_take {w : World} {p : Option Addr} {l : List Int} (h : SlI w p l) (n : Nat) : SlI w p (l.take n) := by
  rcases h with h | ⟨b, off, h1, h2⟩
  · subst h; exact .inl (by simp)
  · refine .inr ⟨b, off, h1, fun i hi => ?_⟩
    rw [List.length_take] at hi
    rw [h2 i (by omega), gi_take2 (by omega)]
theorem sli_drop {w : World} {b off : Nat} {l : List Int} (h : SlI w (some ⟨b, off, none⟩) l) (n : Nat) : SlI w (some ⟨b, off + n, none⟩) (l.drop n) := by
  rcases h with h | ⟨b', off', h1, h2⟩
  · subst h; exact .inl (by simp)
  · simp only [Option.some.injEq, Addr.mk.injEq, and_true] at h1
    obtain ⟨rfl, rfl⟩ := h1
    refine .inr ⟨b, off + n, rfl, fun i hi => ?_⟩
    rw [List.length_drop] at hi
    rw [show off + n + i = off + (n + i) by omega, h2 (n + i) (by omega), gi_drop]

def lenOf : Value → Nat
  | .slice _ n _ => n
  | _ => 0
def Mg (A0 B0 A B out : List Int) : Prop :=
  Rising A ∧ Rising B ∧ Rising out ∧ (∀ u ∈ out, (∀ v ∈ A, u ≤ v) ∧ ∀ v ∈ B, u ≤ v) ∧ ∀ u, (u ∈ out ∨ u ∈ A ∨ u ∈ B) ↔ (u ∈ A0 ∨ u ∈ B0)
theorem rising_snoc {l : List Int} {x : Int} : Rising (l ++ [x]) ↔ Rising l ∧ ∀ u ∈ l, u < x := by
  unfold Rising
  rw [List.pairwise_append]
  simp
theorem rising_last {l : List Int} {x u : Int} (h : Rising (l ++ [x])) (hu : u ∈ l ++ [x]) : u ≤ x := by
  rw [rising_snoc] at h
  rw [List.mem_append, List.mem_singleton] at hu
  rcases hu with hu | hu
  · have := h.2 u hu; omega
  · omega
theorem mg_a {A0 B0 A B out : List Int} {x : Int} (h : Mg A0 B0 (x :: A) B out) (hx : ∀ v ∈ B, x ≤ v) (hn : out = [] ∨ ∃ O z, out = O ++ [z] ∧ z ≠ x) : Mg A0 B0 A B (out ++ [x]) := by
  obtain ⟨h1, h2, h3, h4, h5⟩ := h
  unfold Rising at h1
  rw [List.pairwise_cons] at h1
  refine ⟨h1.2, h2, ?_, ?_, fun u => ?_⟩
  · rw [rising_snoc]
    refine ⟨h3, fun u hu => ?_⟩
    rcases hn with rfl | ⟨O, z, rfl, hz⟩
    · simp at hu
    · have e1 := rising_last h3 hu
      have e2 := (h4 z (by simp)).1 x (by simp)
      omega
  · intro u hu
    rw [List.mem_append, List.mem_singleton] at hu
    rcases hu with hu | rfl
    · exact ⟨fun v hv => (h4 u hu).1 v (by simp [hv]), (h4 u hu).2⟩
    · exact ⟨fun v hv => by have := h1.1 v hv; omega, hx⟩
  · rw [← h5 u, List.mem_append, List.mem_singleton, List.mem_cons, or_assoc, or_assoc]
theorem mg_a0 {A0 B0 A B O : List Int} {x : Int} (h : Mg A0 B0 (x :: A) B (O ++ [x])) : Mg A0 B0 A B (O ++ [x]) := by
  obtain ⟨h1, h2, h3, h4, h5⟩ := h
  unfold Rising at h1
  rw [List.pairwise_cons] at h1
  refine ⟨h1.2, h2, h3, fun u hu => ⟨fun v hv => (h4 u hu).1 v (by simp [hv]), (h4 u hu).2⟩, fun u => ?_⟩
  rw [← h5 u, List.mem_cons]
  constructor
  · rintro (h | h | h)
    · exact .inl h
    · exact .inr (.inl (.inr h))
    · exact .inr (.inr h)
  · rintro (h | (h | h) | h)
    · exact .inl h
    · subst h; exact .inl (by simp)
    · exact .inr (.inl h)
    · exact .inr (.inr h)
theorem Mg.swap {A0 B0 A B out : List Int} (h : Mg A0 B0 A B out) : Mg B0 A0 B A out := by
  obtain ⟨h1, h2, h3, h4, h5⟩ := h
  refine ⟨h2, h1, h3, fun u hu => ⟨(h4 u hu).2, (h4 u hu).1⟩, fun u => ?_⟩
  rw [or_comm (a := u ∈ B0), ← h5 u, or_comm (a := u ∈ B)]

def SortedPost (l : List Int) (w : World) (e : Ending) (w' : World) : Prop :=
  ∃ q d ts, e = .returned (.slice q ts.length d) ∧ SlI w' q ts ∧ Rising ts ∧ (∀ u, u ∈ ts ↔ u ∈ l) ∧ Below w.heap.size w w' ∧ ts.length ≤ l.length ∧ ts.length ≤ d ∧ d ≤ 9223372036854775807

theorem mg_b {A0 B0 A B out : List Int} {x : Int} (h : Mg A0 B0 A (x :: B) out) (hx : ∀ v ∈ A, x ≤ v) (hn : out = [] ∨ ∃ O z, out = O ++ [z] ∧ z ≠ x) : Mg A0 B0 A B (out ++ [x]) := (mg_a h.swap hx hn).swap
theorem mg_b0 {A0 B0 A B O : List Int} {x : Int} (h : Mg A0 B0 A (x :: B) (O ++ [x])) : Mg A0 B0 A B (O ++ [x]) := (mg_a0 h.swap).swap
theorem mg_start {A B : List Int} (ha : Rising A) (hb : Rising B) : Mg A B A B [] := ⟨ha, hb, List.Pairwise.nil, fun u hu => by simp at hu, fun u => by simp⟩
theorem mg_all {x y : Int} {B : List Int} (h : Rising (y :: B)) (hx : x ≤ y) : ∀ v ∈ y :: B, x ≤ v := by
  unfold Rising at h
  rw [List.pairwise_cons] at h
  intro v hv
  rw [List.mem_cons] at hv
  rcases hv with rfl | hv
  · exact hx
  · have := h.1 v hv; omega
theorem mg_open {w2 wr : World} {p : Option Addr} {A : List Int} {n c : Nat} (hn : n = A.length) (hp : SlI w2 p A) (h0 : 0 < n) (hc : n ≤ c) (hb : Below w2.heap.size w2 wr) :
    ∃ x At nt ct b o, A = x :: At ∧ n = nt + 1 ∧ c = ct + 1 ∧ p = some ⟨b, o, none⟩ ∧ wr.cell? ⟨b, o, none⟩ = some (.int .i64 x) ∧ Hid (SlI w2 (some ⟨b, o + 1, none⟩) At) ∧ Hid (ct = 0 → ∀ p', SlI w2 p' At) ∧ Hid (nt = At.length) := by
  match A, hn with
  | [], hn => simp at hn; omega
  | x :: At, hn =>
    obtain ⟨b, o, rfl, hx⟩ := sli_head (hp.below hb)
    simp only [List.length_cons] at hn
    refine ⟨x, At, At.length, c - 1, b, o, rfl, hn, by omega, rfl, hx, Lib.hid (sli_tail hp), Lib.hid (fun h p' => .inl (List.eq_nil_of_length_eq_zero (by omega))), Lib.hid rfl⟩
theorem ints_snoc (l : List Int) : l = [] ∨ ∃ i x, l = i ++ [x] := by
  rcases List.eq_nil_or_concat l with h | ⟨i, x, h⟩
  · exact .inl h
  · exact .inr ⟨i, x, by rw [h, List.concat_eq_append]⟩
theorem mg_last {w : World} {B no d : Nat} {q : Option Addr} {O : List Int} {z : Int} (h : OwnI w B (.slice q no d) (O ++ [z])) (hn : no = (O ++ [z]).length) :
    ∃ nt g, no = nt + 1 ∧ q = some ⟨g, 0, none⟩ ∧ w.cell? ⟨g, nt, none⟩ = some (.int .i64 z) := by
  obtain ⟨p, c, e, _, _, hp⟩ := ownI_form h
  obtain ⟨g, rfl, _⟩ := hp (by simp)
  simp only [Value.slice.injEq] at e
  obtain ⟨rfl, _, rfl⟩ := e
  have hl : (O ++ [z]).length = O.length + 1 := by simp
  refine ⟨O.length, g, by omega, rfl, ?_⟩
  rw [ownI_cell h hn.symm O.length (by omega)]
  unfold gi
  simp [List.getD_eq_getElem?_getD]
theorem ownI_row {w : World} {B no d : Nat} {q : Option Addr} {l : List Int} (h : OwnI w B (.slice q no d) l) (hn : no = l.length) : w.ownsRow B 3 1 (.slice q no d) no (l.map (Value.int .i64)) := by
  subst hn; exact h
theorem ownI_open {w : World} {B : Nat} {v : Value} {l : List Int} (h : OwnI w B v l) : ∃ q d n, Hid (n = l.length) ∧ v = .slice q n d ∧ Hid (OwnI w B (.slice q n d) l) := by
  obtain ⟨p, c, rfl, _⟩ := ownI_form h
  exact ⟨p, c, l.length, Lib.hid rfl, rfl, Lib.hid h⟩
theorem cells_one_new (w : World) (u : Value) (T : TypeId) : ∀ j x, [u][j]? = some x → (w.alloc (.cells #[u] T)).cell? ((⟨w.heap.size, 0, none⟩ : Addr).add j) = some x := by
  intro j x hx
  match j, hx with
  | 0, hx => show (w.alloc (.cells #[u] T)).cell? ⟨w.heap.size, 0, none⟩ = _; rw [World.cell?_alloc_at _ _ _ _ rfl]; exact hx
  | n + 1, hx => simp at hx
theorem sorted_end {w w2 wr : World} {q : Option Addr} {no d h : Nat} {l ts1 ts2 out : List Int} (ho : OwnI wr w2.heap.size (.slice q no d) out) (hn : no = out.length) (hm : Mg ts1 ts2 [] [] out) (h1 : ∀ u, u ∈ ts1 ↔ u ∈ l.take h) (h2 : ∀ u, u ∈ ts2 ↔ u ∈ l.drop h) (hb : Below w.heap.size w w2) (hb2 : Below w2.heap.size w2 wr) (hl : no ≤ l.length) :
    SortedPost l w (.returned (.slice q no d)) wr := by
  subst hn
  obtain ⟨_, _, h3, _, h5⟩ := hm
  obtain ⟨p, c, e, hc1, hc2, _⟩ := ownI_form ho
  simp only [Value.slice.injEq, true_and] at e
  obtain ⟨rfl, rfl⟩ := e
  refine ⟨q, d, out, rfl, ownI_sl ho rfl, h3, fun u => ?_, bl_trans hb hb2, hl, hc1, hc2⟩
  have := h5 u
  simp only [List.not_mem_nil, or_false] at this
  rw [this, h1 u, h2 u, ← List.mem_append, List.take_append_drop]

set_option maxHeartbeats 800000 in
set_option maxRecDepth 100000 in
theorem sorted_small (m : Nat) (p : Option Addr) (c : Nat) (l : List Int) (w : World) (hm2 : m < 2) (hm : m = l.length) (hp : SlI w p l) (hc : m ≤ c) (hcm : c ≤ 9223372036854775807) :
    Calls Tryz.prog 153 #[.slice p m c] w (SortedPost l w) := by
  have hm2I : (m : Int) < 2 := by omega
  have HC := Lib.hid (show m ≤ c ∧ c ≤ 9223372036854775807 from ⟨hc, hcm⟩)
  have HP := Lib.hid hp
  have HM := Lib.hid hm
  have H2 := Lib.hid hm2
  clear hcm hc hp hm hm2
  go_enter Tryz.func153, Tryz.ntmps153
  go_wp2
  go_ret
  have hr : Rising l := by
    have h1 := HM.out
    have h2 := H2.out
    match l, h1 with
    | [], _ => exact List.Pairwise.nil
    | [x], _ => exact List.pairwise_singleton _ _
    | x :: y :: r, h1 => simp at h1; omega
  exact ⟨p, c, l, by show Ending.returned (Value.slice p m c) = _; rw [HM.out], HP.out, hr, fun u => Iff.rfl, Below.refl _ _, Nat.le_refl _, by rw [← HM.out]; exact HC.out.1, HC.out.2⟩

set_option maxHeartbeats 12800000 in
set_option maxRecDepth 100000 in
theorem sorted_any : ∀ (N m : Nat) (p : Option Addr) (c : Nat) (l : List Int) (w : World), m ≤ N → m = l.length → SlI w p l → m ≤ 100000000 → m ≤ c → c ≤ 9223372036854775807 →
    Calls Tryz.prog 153 #[.slice p m c] w (SortedPost l w) := by
  intro N
  induction N with
  | zero =>
    intro m p c l w hN hm hp hl hc hcm
    exact sorted_small m p c l w (by omega) hm hp hc hcm
  | succ N ih =>
    intro m p c l w hN hm hp hl hc hcm
    by_cases hm2 : m < 2
    · exact sorted_small m p c l w hm2 hm hp hc hcm
    · obtain ⟨b, off, rfl, _⟩ : ∃ b off, p = some ⟨b, off, none⟩ ∧ True := by
        rcases hp with h | ⟨b, off, h, _⟩
        · rw [h] at hm; simp at hm; omega
        · exact ⟨b, off, h, trivial⟩
      obtain ⟨hf, hh⟩ : ∃ h, h = m / 2 := ⟨_, rfl⟩
      have hq : (m : Int).tdiv 2 = (hf : Int) := by rw [Int.tdiv_eq_ediv_of_nonneg (by omega), hh]; omega
      have hh1 : hf < m := by omega
      have hh2 : 0 < hf := by omega
      have A1 := Lib.hid (fun (W : World) (hb : Hid (Below w.heap.size w W)) => ih hf (some ⟨b, off, none⟩) c (l.take hf) W (by omega) (by rw [List.length_take]; omega) ((sli_take hp hf).below hb.out) (by omega) (by omega) hcm)
      have A2 := Lib.hid (fun (W : World) (hb : Hid (Below w.heap.size w W)) => ih (m - hf) (some ⟨b, off + hf, none⟩) (c - hf) (l.drop hf) W (by omega) (by rw [List.length_drop]; omega) ((sli_drop hp hf).below hb.out) (by omega) (by omega) (by omega))
      have HL := Lib.hid hl
      have HM := Lib.hid hm
      have HH := Lib.hid (show hf < m ∧ m ≤ c from ⟨hh1, hc⟩)
      have i1 : (hf : Int) < m := by omega
      have i2 : (0 : Int) < hf := by omega
      have i3 : (m : Int) ≤ c := by omega
      have i4 : (c : Int) ≤ 9223372036854775807 := by omega
      have i5 : (2 : Int) ≤ m := by omega
      have i6 : (0 : Int) ≤ hf := by omega
      have i10 : IntKind.i64.wrap (hf : Int) = hf := by rw [IntKind.wrap_i64]; omega
      have i11 : (hf : Int) ≤ m := by omega
      have i7 : (hf : Int) ≤ c := by omega
      have i8 : (m : Int) - hf = ((m - hf : Nat) : Int) := by omega
      have i9 : (c : Int) - hf = ((c - hf : Nat) : Int) := by omega
      clear hm2 hh hh1 hh2 hp ih hl hc hcm hN hm
      go_enter Tryz.func153, Tryz.ntmps153
      go_wp2
      go_region_held3 (fun w' => Hid (Below w.heap.size w w')) (first | exact bl_drew _ | assumption) (first | (go_at_call 153; (with_reducible refine (A1.out _ (by assumption)).mono ?_); rintro e w1 ⟨q1, d1, ts1, rfl, hs1, hr1, hm1, hb1, hl1, hd1, hc1⟩; have hbx1 : Hid (Below w.heap.size w w1) := bl_trans (Hid.out (by assumption)) hb1; have HS1 := Lib.hid hs1; have HR1 := Lib.hid hr1; have HM1 := Lib.hid hm1; have HL1 := Lib.hid hl1; have HD1 := Lib.hid (And.intro hd1 hc1); clear hs1 hr1 hm1 hb1 hl1 hd1 hc1) | (go_at_call 153; (with_reducible refine (A2.out _ (by assumption)).mono ?_); rintro e w2 ⟨q2, d2, ts2, rfl, hs2, hr2, hm2, hb2, hl2, hd2, hc2⟩; have hbx2 : Hid (Below w.heap.size w w2) := bl_trans (Hid.out hbx1) hb2; have HS2 := Lib.hid hs2; have HR2 := Lib.hid hr2; have HM2 := Lib.hid hm2; have HL2 := Lib.hid hl2; have HD2 := Lib.hid (And.intro hd2 hc2); have HSA := Lib.hid (SlI.below HS1.out hb2); clear hs2 hr2 hm2 hb2 hl2 hd2 hc2))
      -- the merge
      go_wp2
      obtain ⟨i0, hinf, hz0, hz1, hz2⟩ := info_parts info_int
      go_loopw [3, 4, 5] (fun av bv ov wr => ∃ (p1 : Option Addr) (na c1 : Nat) (p2 : Option Addr) (nb c2 : Nat) (q : Option Addr) (no d : Nat) (A B out : List Int), av = .slice p1 na c1 ∧ bv = .slice p2 nb c2 ∧ ov = .slice q no d ∧ (na : Int) ≤ c1 ∧ (c1 : Int) ≤ 9223372036854775807 ∧ (nb : Int) ≤ c2 ∧ (c2 : Int) ≤ 9223372036854775807 ∧ (na : Int) + nb + no ≤ 100000000 ∧ Hid (na + nb + no ≤ m) ∧ Hid (na = A.length) ∧ Hid (nb = B.length) ∧ Hid (no = out.length) ∧ Hid (SlI w2 p1 A) ∧ Hid (SlI w2 p2 B) ∧ Hid (OwnI wr w2.heap.size (.slice q no d) out) ∧ Hid (Mg ts1 ts2 A B out) ∧ Hid (Below w2.heap.size w2 wr)) (fun av bv _ _ => lenOf av + lenOf bv)
      case atStart =>
        have e1 := HL1.out; have e2 := HL2.out; have e3 := HM.out; have e4 := HL.out; have e5 := HD1.out; have e6 := HD2.out; have e7 := HH.out
        rw [List.length_take] at e1
        rw [List.length_drop] at e2
        exact ⟨q1, ts1.length, d1, q2, ts2.length, d2, none, 0, 0, ts1, ts2, [], rfl, rfl, rfl, by omega, by omega, by omega, by omega, by omega, (by show _ ≤ _; omega), rfl, rfl, rfl, HSA.out, HS2.out, ownI_nil _ _, mg_start HR1.out HR2.out, Below.refl _ _⟩
      case round =>
        obtain ⟨p1, na, c1, p2, nb, c2, q, no, d, A, B, out, rfl, rfl, rfl, hc1, hc1m, hc2, hc2m, hsum, HSM, HA, HB, HO, HPA, HPB, HOW, HMG, HBL⟩ := hrel
        rename World => wr
        clear A1 A2 HS1 HR1 HL1 HD1 HS2 HR2 HL2 HD2 HSA hq i1 i2 i3 i4 i5 i6 i7 i8 i9 i10 i11 HH HL
        by_cases ha0 : na = 0
        · subst ha0
          have hA0 : A = [] := List.eq_nil_of_length_eq_zero HA.out.symm
          subst hA0
          by_cases hb0 : nb = 0
          · subst hb0
            have hB0 : B = [] := List.eq_nil_of_length_eq_zero HB.out.symm
            subst hB0
            go_wp2
            go_ret
            exact sorted_end HOW.out HO.out HMG.out HM1.out HM2.out hbx2.out HBL.out (by have e1 := HSM.out; have e2 := HM.out; omega)
          · have hb1 : (0 : Int) < nb := by omega
            obtain ⟨y, Bt, nbt, c2t, bb, ob, rfl, rfl, rfl, rfl, hcellb, HTb, HZb, HNb⟩ := mg_open HB.out HPB.out (show 0 < nb by omega) (show nb ≤ c2 by omega) HBL.out
            have hneb : (((nbt : Nat) : Int) + 1 == 0) = false := by simp; omega
            have hgtb : decide ((0 : Int) < ((nbt : Nat) : Int) + 1) = true := decide_eq_true (by omega)
            have HX : Hid (∀ v ∈ ([] : List Int), y ≤ v) := by intro v hv; simp at hv
            rcases ints_snoc out with rfl | ⟨O, z, rfl⟩
            · obtain rfl : no = 0 := by have := HO.out; simp at this; exact this
              have HG := Lib.hid (mg_b HMG.out HX.out (.inl rfl))
              go_wp2
              go_quiet (fail)
              have f1 : (1 : Int) ≤ ((nbt : Nat) : Int) + 1 := by omega
              have f2 : ((nbt : Nat) : Int) + 1 ≤ ((c2t : Nat) : Int) + 1 := by omega
              have f3 : (1 : Int) ≤ ((c2t : Nat) : Int) + 1 := by omega
              have HBD := Lib.hid (And.intro hsum (And.intro hc1m (And.intro hc2m (And.intro hc1 hc2))))
              clear hsum hc1m hc2m hc1 hc2
              have HOW2 : Hid (OwnI (wr.drewN nq) w2.heap.size _ _) := HOW
              have HBL2 := Lib.hid (bl_trans HBL.out (drewN_below wr nq))
              have hrow := ownI_row HOW2.out HO.out
              have HRO := Lib.hid hrow
              clear hrow HBL HOW
              by_cases hct : c2t = 0
              ·
                go_wp2_with (at_builtin; refine wpList_append_own _ rfl _ _ 22 rfl w2.heap.size 3 i0 (.int .i64 0) 1 8 Tryz.underlying22 hinf hz0 hz1 hz2 rfl (by decide) (.slice q 0 d) 0 _ rfl (HRO.out.alloc _) ⟨wr.heap.size, 0, none⟩ 1 1 [.int .i64 y] rfl rfl (cells_one_new _ _ _) (by simp [Value.oneCell']) (by have := HBD.out.1; simp only [maxLen]; omega) (by have := HBD.out.1; omega) (by have : w2.heap.size ≤ wr.heap.size := HBL2.out.size; simp; omega) ?_)
                intro v5 w5 hown5 hgrow5 _
                have hO5 : OwnI w5 w2.heap.size v5 ([] ++ [y]) := ownI_appended HO.out.symm hown5
                have hb5 : Below w2.heap.size w2 w5 := (HBL2.out.alloc HBL2.out.size _).grown hgrow5 (by have : w2.heap.size ≤ wr.heap.size := HBL2.out.size; simp; omega) (fun k hk => (HRO.out.lt k hk).1)
                obtain ⟨q5, d5, nx, HK5, rfl, HO5⟩ := ownI_open hO5
                have HB5 := Lib.hid hb5
                have hnx : (nx : Int) = 0 + 1 := by have e1 := HK5.out; have e2 := HO.out; rw [List.length_append, ← e2] at e1; simp at e1; omega
                clear hown5 hgrow5 hO5 hb5
                go_wp2
                obtain ⟨hsum, hc1m, hc2m, hc1, hc2⟩ := HBD.out
                go_roundw
                case rel =>
                  refine ⟨p1, _, c1, (some ⟨bb, ob, none⟩), nbt, 0, q5, nx, d5, _, Bt, ([] ++ [y]), ?ra, ?rb, ?rc, by omega, by omega, by omega, by omega, by omega, (by have := HSM.out; show _ ≤ _; omega), HA, HNb, HK5, ?sa, ?sb, HO5.out, HG.out, HB5.out⟩
                  case ra => rfl
                  case rb => rfl
                  case rc => rfl
                  case sa => exact HPA.out
                  case sb => exact HZb.out hct _
                case measure => first | (simp [lenOf]; done) | (simp [lenOf]; omega)
              ·
                go_wp2_with (at_builtin; refine wpList_append_own _ rfl _ _ 22 rfl w2.heap.size 3 i0 (.int .i64 0) 1 8 Tryz.underlying22 hinf hz0 hz1 hz2 rfl (by decide) (.slice q 0 d) 0 _ rfl (HRO.out.alloc _) ⟨wr.heap.size, 0, none⟩ 1 1 [.int .i64 y] rfl rfl (cells_one_new _ _ _) (by simp [Value.oneCell']) (by have := HBD.out.1; simp only [maxLen]; omega) (by have := HBD.out.1; omega) (by have : w2.heap.size ≤ wr.heap.size := HBL2.out.size; simp; omega) ?_)
                intro v5 w5 hown5 hgrow5 _
                have hO5 : OwnI w5 w2.heap.size v5 ([] ++ [y]) := ownI_appended HO.out.symm hown5
                have hb5 : Below w2.heap.size w2 w5 := (HBL2.out.alloc HBL2.out.size _).grown hgrow5 (by have : w2.heap.size ≤ wr.heap.size := HBL2.out.size; simp; omega) (fun k hk => (HRO.out.lt k hk).1)
                obtain ⟨q5, d5, nx, HK5, rfl, HO5⟩ := ownI_open hO5
                have HB5 := Lib.hid hb5
                have hnx : (nx : Int) = 0 + 1 := by have e1 := HK5.out; have e2 := HO.out; rw [List.length_append, ← e2] at e1; simp at e1; omega
                clear hown5 hgrow5 hO5 hb5
                go_wp2
                obtain ⟨hsum, hc1m, hc2m, hc1, hc2⟩ := HBD.out
                go_roundw
                case rel =>
                  refine ⟨p1, _, c1, (some ⟨bb, ob + 1, none⟩), nbt, c2t, q5, nx, d5, _, Bt, ([] ++ [y]), ?ra, ?rb, ?rc, by omega, by omega, by omega, by omega, by omega, (by have := HSM.out; show _ ≤ _; omega), HA, HNb, HK5, ?sa, ?sb, HO5.out, HG.out, HB5.out⟩
                  case ra => rfl
                  case rb => rfl
                  case rc => rfl
                  case sa => exact HPA.out
                  case sb => exact HTb.out
                case measure => first | (simp [lenOf]; done) | (simp [lenOf]; omega)
            · obtain ⟨not, go, rfl, rfl, hcello⟩ := mg_last HOW.out HO.out
              have hneo : (((not : Nat) : Int) + 1 == 0) = false := by simp; omega
              by_cases hz : z = y
              · subst hz
                have HG := Lib.hid (mg_b0 HMG.out)
                go_wp2
                go_quiet (fail)
                have f1 : (1 : Int) ≤ ((nbt : Nat) : Int) + 1 := by omega
                have f2 : ((nbt : Nat) : Int) + 1 ≤ ((c2t : Nat) : Int) + 1 := by omega
                have f3 : (1 : Int) ≤ ((c2t : Nat) : Int) + 1 := by omega
                have f4 : ((not : Nat) : Int) ≤ 100000000 := by omega
                have HBD := Lib.hid (And.intro hsum (And.intro hc1m (And.intro hc2m (And.intro hc1 hc2))))
                clear hsum hc1m hc2m hc1 hc2
                have HOW2 : Hid (OwnI (wr.drewN nq) w2.heap.size _ _) := HOW
                have HBL2 := Lib.hid (bl_trans HBL.out (drewN_below wr nq))
                have hrow := ownI_row HOW2.out HO.out
                have HRO := Lib.hid hrow
                clear hrow HBL HOW
                by_cases hct : c2t = 0
                ·
                  go_wp2
                  obtain ⟨hsum, hc1m, hc2m, hc1, hc2⟩ := HBD.out
                  go_roundw
                  case rel =>
                    refine ⟨p1, _, c1, (some ⟨bb, ob, none⟩), nbt, 0, (some ⟨go, 0, none⟩), not + 1, d, _, Bt, (O ++ [z]), ?ra, ?rb, ?rc, by omega, by omega, by omega, by omega, by omega, (by have := HSM.out; show _ ≤ _; omega), HA, HNb, HO, ?sa, ?sb, HOW2.out, HG.out, HBL2.out⟩
                    case ra => rfl
                    case rb => rfl
                    case rc => rfl
                    case sa => exact HPA.out
                    case sb => exact HZb.out hct _
                  case measure => first | (simp [lenOf]; done) | (simp [lenOf]; omega)
                ·
                  go_wp2
                  obtain ⟨hsum, hc1m, hc2m, hc1, hc2⟩ := HBD.out
                  go_roundw
                  case rel =>
                    refine ⟨p1, _, c1, (some ⟨bb, ob + 1, none⟩), nbt, c2t, (some ⟨go, 0, none⟩), not + 1, d, _, Bt, (O ++ [z]), ?ra, ?rb, ?rc, by omega, by omega, by omega, by omega, by omega, (by have := HSM.out; show _ ≤ _; omega), HA, HNb, HO, ?sa, ?sb, HOW2.out, HG.out, HBL2.out⟩
                    case ra => rfl
                    case rb => rfl
                    case rc => rfl
                    case sa => exact HPA.out
                    case sb => exact HTb.out
                  case measure => first | (simp [lenOf]; done) | (simp [lenOf]; omega)
              · have hzb : (z == y) = false := by simpa using hz
                have hzb2 : (z != y) = true := by simpa using hz
                have HZN := Lib.hid hz
                clear hz
                have HG := Lib.hid (mg_b HMG.out HX.out (.inr ⟨O, z, rfl, HZN.out⟩))
                go_wp2
                go_quiet (fail)
                have f1 : (1 : Int) ≤ ((nbt : Nat) : Int) + 1 := by omega
                have f2 : ((nbt : Nat) : Int) + 1 ≤ ((c2t : Nat) : Int) + 1 := by omega
                have f3 : (1 : Int) ≤ ((c2t : Nat) : Int) + 1 := by omega
                have f4 : ((not : Nat) : Int) ≤ 100000000 := by omega
                have HBD := Lib.hid (And.intro hsum (And.intro hc1m (And.intro hc2m (And.intro hc1 hc2))))
                clear hsum hc1m hc2m hc1 hc2
                have HOW2 : Hid (OwnI (wr.drewN nq) w2.heap.size _ _) := HOW
                have HBL2 := Lib.hid (bl_trans HBL.out (drewN_below wr nq))
                have hrow := ownI_row HOW2.out HO.out
                have HRO := Lib.hid hrow
                clear hrow HBL HOW
                by_cases hct : c2t = 0
                ·
                  go_wp2_with (at_builtin; refine wpList_append_own _ rfl _ _ 22 rfl w2.heap.size 3 i0 (.int .i64 0) 1 8 Tryz.underlying22 hinf hz0 hz1 hz2 rfl (by decide) (.slice (some ⟨go, 0, none⟩) (not + 1) d) (not + 1) _ rfl (HRO.out.alloc _) ⟨wr.heap.size, 0, none⟩ 1 1 [.int .i64 y] rfl rfl (cells_one_new _ _ _) (by simp [Value.oneCell']) (by have := HBD.out.1; simp only [maxLen]; omega) (by have := HBD.out.1; omega) (by have : w2.heap.size ≤ wr.heap.size := HBL2.out.size; simp; omega) ?_)
                  intro v5 w5 hown5 hgrow5 _
                  have hO5 : OwnI w5 w2.heap.size v5 ((O ++ [z]) ++ [y]) := ownI_appended HO.out.symm (by rw [List.map_append, List.append_assoc]; exact hown5)
                  have hb5 : Below w2.heap.size w2 w5 := (HBL2.out.alloc HBL2.out.size _).grown hgrow5 (by have : w2.heap.size ≤ wr.heap.size := HBL2.out.size; simp; omega) (fun k hk => (HRO.out.lt k hk).1)
                  obtain ⟨q5, d5, nx, HK5, rfl, HO5⟩ := ownI_open hO5
                  have HB5 := Lib.hid hb5
                  have hnx : (nx : Int) = ((not : Nat) : Int) + 1 + 1 := by have e1 := HK5.out; have e2 := HO.out; rw [List.length_append, ← e2] at e1; simp at e1; omega
                  clear hown5 hgrow5 hO5 hb5
                  go_wp2
                  obtain ⟨hsum, hc1m, hc2m, hc1, hc2⟩ := HBD.out
                  go_roundw
                  case rel =>
                    refine ⟨p1, _, c1, (some ⟨bb, ob, none⟩), nbt, 0, q5, nx, d5, _, Bt, (O ++ [z] ++ [y]), ?ra, ?rb, ?rc, by omega, by omega, by omega, by omega, by omega, (by have := HSM.out; show _ ≤ _; omega), HA, HNb, HK5, ?sa, ?sb, HO5.out, HG.out, HB5.out⟩
                    case ra => rfl
                    case rb => rfl
                    case rc => rfl
                    case sa => exact HPA.out
                    case sb => exact HZb.out hct _
                  case measure => first | (simp [lenOf]; done) | (simp [lenOf]; omega)
                ·
                  go_wp2_with (at_builtin; refine wpList_append_own _ rfl _ _ 22 rfl w2.heap.size 3 i0 (.int .i64 0) 1 8 Tryz.underlying22 hinf hz0 hz1 hz2 rfl (by decide) (.slice (some ⟨go, 0, none⟩) (not + 1) d) (not + 1) _ rfl (HRO.out.alloc _) ⟨wr.heap.size, 0, none⟩ 1 1 [.int .i64 y] rfl rfl (cells_one_new _ _ _) (by simp [Value.oneCell']) (by have := HBD.out.1; simp only [maxLen]; omega) (by have := HBD.out.1; omega) (by have : w2.heap.size ≤ wr.heap.size := HBL2.out.size; simp; omega) ?_)
                  intro v5 w5 hown5 hgrow5 _
                  have hO5 : OwnI w5 w2.heap.size v5 ((O ++ [z]) ++ [y]) := ownI_appended HO.out.symm (by rw [List.map_append, List.append_assoc]; exact hown5)
                  have hb5 : Below w2.heap.size w2 w5 := (HBL2.out.alloc HBL2.out.size _).grown hgrow5 (by have : w2.heap.size ≤ wr.heap.size := HBL2.out.size; simp; omega) (fun k hk => (HRO.out.lt k hk).1)
                  obtain ⟨q5, d5, nx, HK5, rfl, HO5⟩ := ownI_open hO5
                  have HB5 := Lib.hid hb5
                  have hnx : (nx : Int) = ((not : Nat) : Int) + 1 + 1 := by have e1 := HK5.out; have e2 := HO.out; rw [List.length_append, ← e2] at e1; simp at e1; omega
                  clear hown5 hgrow5 hO5 hb5
                  go_wp2
                  obtain ⟨hsum, hc1m, hc2m, hc1, hc2⟩ := HBD.out
                  go_roundw
                  case rel =>
                    refine ⟨p1, _, c1, (some ⟨bb, ob + 1, none⟩), nbt, c2t, q5, nx, d5, _, Bt, (O ++ [z] ++ [y]), ?ra, ?rb, ?rc, by omega, by omega, by omega, by omega, by omega, (by have := HSM.out; show _ ≤ _; omega), HA, HNb, HK5, ?sa, ?sb, HO5.out, HG.out, HB5.out⟩
                    case ra => rfl
                    case rb => rfl
                    case rc => rfl
                    case sa => exact HPA.out
                    case sb => exact HTb.out
                  case measure => first | (simp [lenOf]; done) | (simp [lenOf]; omega)
        · have ha1 : (0 : Int) < na := by omega
          obtain ⟨x, At, nat, c1t, ba, oa, rfl, rfl, rfl, rfl, hcella, HTa, HZa, HNa⟩ := mg_open HA.out HPA.out (show 0 < na by omega) (show na ≤ c1 by omega) HBL.out
          have hnea : (((nat : Nat) : Int) + 1 == 0) = false := by simp; omega
          have hgta : decide ((0 : Int) < ((nat : Nat) : Int) + 1) = true := decide_eq_true (by omega)
          by_cases hb0 : nb = 0
          · subst hb0
            have hB0 : B = [] := List.eq_nil_of_length_eq_zero HB.out.symm
            subst hB0
            have HX : Hid (∀ v ∈ ([] : List Int), x ≤ v) := by intro v hv; simp at hv
            rcases ints_snoc out with rfl | ⟨O, z, rfl⟩
            · obtain rfl : no = 0 := by have := HO.out; simp at this; exact this
              have HG := Lib.hid (mg_a HMG.out HX.out (.inl rfl))
              go_wp2
              go_quiet (fail)
              have f1 : (1 : Int) ≤ ((nat : Nat) : Int) + 1 := by omega
              have f2 : ((nat : Nat) : Int) + 1 ≤ ((c1t : Nat) : Int) + 1 := by omega
              have f3 : (1 : Int) ≤ ((c1t : Nat) : Int) + 1 := by omega
              have HBD := Lib.hid (And.intro hsum (And.intro hc1m (And.intro hc2m (And.intro hc1 hc2))))
              clear hsum hc1m hc2m hc1 hc2
              have HOW2 : Hid (OwnI (wr.drewN nq) w2.heap.size _ _) := HOW
              have HBL2 := Lib.hid (bl_trans HBL.out (drewN_below wr nq))
              have hrow := ownI_row HOW2.out HO.out
              have HRO := Lib.hid hrow
              clear hrow HBL HOW
              by_cases hct : c1t = 0
              ·
                go_wp2_with (at_builtin; refine wpList_append_own _ rfl _ _ 22 rfl w2.heap.size 3 i0 (.int .i64 0) 1 8 Tryz.underlying22 hinf hz0 hz1 hz2 rfl (by decide) (.slice q 0 d) 0 _ rfl (HRO.out.alloc _) ⟨wr.heap.size, 0, none⟩ 1 1 [.int .i64 x] rfl rfl (cells_one_new _ _ _) (by simp [Value.oneCell']) (by have := HBD.out.1; simp only [maxLen]; omega) (by have := HBD.out.1; omega) (by have : w2.heap.size ≤ wr.heap.size := HBL2.out.size; simp; omega) ?_)
                intro v5 w5 hown5 hgrow5 _
                have hO5 : OwnI w5 w2.heap.size v5 ([] ++ [x]) := ownI_appended HO.out.symm hown5
                have hb5 : Below w2.heap.size w2 w5 := (HBL2.out.alloc HBL2.out.size _).grown hgrow5 (by have : w2.heap.size ≤ wr.heap.size := HBL2.out.size; simp; omega) (fun k hk => (HRO.out.lt k hk).1)
                obtain ⟨q5, d5, nx, HK5, rfl, HO5⟩ := ownI_open hO5
                have HB5 := Lib.hid hb5
                have hnx : (nx : Int) = 0 + 1 := by have e1 := HK5.out; have e2 := HO.out; rw [List.length_append, ← e2] at e1; simp at e1; omega
                clear hown5 hgrow5 hO5 hb5
                go_wp2
                obtain ⟨hsum, hc1m, hc2m, hc1, hc2⟩ := HBD.out
                go_roundw
                case rel =>
                  refine ⟨(some ⟨ba, oa, none⟩), nat, 0, p2, _, c2, q5, nx, d5, At, _, ([] ++ [x]), ?ra, ?rb, ?rc, by omega, by omega, by omega, by omega, by omega, (by have := HSM.out; show _ ≤ _; omega), HNa, HB, HK5, ?sa, ?sb, HO5.out, HG.out, HB5.out⟩
                  case ra => rfl
                  case rb => rfl
                  case rc => rfl
                  case sa => exact HZa.out hct _
                  case sb => exact HPB.out
                case measure => first | (simp [lenOf]; done) | (simp [lenOf]; omega)
              ·
                go_wp2_with (at_builtin; refine wpList_append_own _ rfl _ _ 22 rfl w2.heap.size 3 i0 (.int .i64 0) 1 8 Tryz.underlying22 hinf hz0 hz1 hz2 rfl (by decide) (.slice q 0 d) 0 _ rfl (HRO.out.alloc _) ⟨wr.heap.size, 0, none⟩ 1 1 [.int .i64 x] rfl rfl (cells_one_new _ _ _) (by simp [Value.oneCell']) (by have := HBD.out.1; simp only [maxLen]; omega) (by have := HBD.out.1; omega) (by have : w2.heap.size ≤ wr.heap.size := HBL2.out.size; simp; omega) ?_)
                intro v5 w5 hown5 hgrow5 _
                have hO5 : OwnI w5 w2.heap.size v5 ([] ++ [x]) := ownI_appended HO.out.symm hown5
                have hb5 : Below w2.heap.size w2 w5 := (HBL2.out.alloc HBL2.out.size _).grown hgrow5 (by have : w2.heap.size ≤ wr.heap.size := HBL2.out.size; simp; omega) (fun k hk => (HRO.out.lt k hk).1)
                obtain ⟨q5, d5, nx, HK5, rfl, HO5⟩ := ownI_open hO5
                have HB5 := Lib.hid hb5
                have hnx : (nx : Int) = 0 + 1 := by have e1 := HK5.out; have e2 := HO.out; rw [List.length_append, ← e2] at e1; simp at e1; omega
                clear hown5 hgrow5 hO5 hb5
                go_wp2
                obtain ⟨hsum, hc1m, hc2m, hc1, hc2⟩ := HBD.out
                go_roundw
                case rel =>
                  refine ⟨(some ⟨ba, oa + 1, none⟩), nat, c1t, p2, _, c2, q5, nx, d5, At, _, ([] ++ [x]), ?ra, ?rb, ?rc, by omega, by omega, by omega, by omega, by omega, (by have := HSM.out; show _ ≤ _; omega), HNa, HB, HK5, ?sa, ?sb, HO5.out, HG.out, HB5.out⟩
                  case ra => rfl
                  case rb => rfl
                  case rc => rfl
                  case sa => exact HTa.out
                  case sb => exact HPB.out
                case measure => first | (simp [lenOf]; done) | (simp [lenOf]; omega)
            · obtain ⟨not, go, rfl, rfl, hcello⟩ := mg_last HOW.out HO.out
              have hneo : (((not : Nat) : Int) + 1 == 0) = false := by simp; omega
              by_cases hz : z = x
              · subst hz
                have HG := Lib.hid (mg_a0 HMG.out)
                go_wp2
                go_quiet (fail)
                have f1 : (1 : Int) ≤ ((nat : Nat) : Int) + 1 := by omega
                have f2 : ((nat : Nat) : Int) + 1 ≤ ((c1t : Nat) : Int) + 1 := by omega
                have f3 : (1 : Int) ≤ ((c1t : Nat) : Int) + 1 := by omega
                have f4 : ((not : Nat) : Int) ≤ 100000000 := by omega
                have HBD := Lib.hid (And.intro hsum (And.intro hc1m (And.intro hc2m (And.intro hc1 hc2))))
                clear hsum hc1m hc2m hc1 hc2
                have HOW2 : Hid (OwnI (wr.drewN nq) w2.heap.size _ _) := HOW
                have HBL2 := Lib.hid (bl_trans HBL.out (drewN_below wr nq))
                have hrow := ownI_row HOW2.out HO.out
                have HRO := Lib.hid hrow
                clear hrow HBL HOW
                by_cases hct : c1t = 0
                ·
                  go_wp2
                  obtain ⟨hsum, hc1m, hc2m, hc1, hc2⟩ := HBD.out
                  go_roundw
                  case rel =>
                    refine ⟨(some ⟨ba, oa, none⟩), nat, 0, p2, _, c2, (some ⟨go, 0, none⟩), not + 1, d, At, _, (O ++ [z]), ?ra, ?rb, ?rc, by omega, by omega, by omega, by omega, by omega, (by have := HSM.out; show _ ≤ _; omega), HNa, HB, HO, ?sa, ?sb, HOW2.out, HG.out, HBL2.out⟩
                    case ra => rfl
                    case rb => rfl
                    case rc => rfl
                    case sa => exact HZa.out hct _
                    case sb => exact HPB.out
                  case measure => first | (simp [lenOf]; done) | (simp [lenOf]; omega)
                ·
                  go_wp2
                  obtain ⟨hsum, hc1m, hc2m, hc1, hc2⟩ := HBD.out
                  go_roundw
                  case rel =>
                    refine ⟨(some ⟨ba, oa + 1, none⟩), nat, c1t, p2, _, c2, (some ⟨go, 0, none⟩), not + 1, d, At, _, (O ++ [z]), ?ra, ?rb, ?rc, by omega, by omega, by omega, by omega, by omega, (by have := HSM.out; show _ ≤ _; omega), HNa, HB, HO, ?sa, ?sb, HOW2.out, HG.out, HBL2.out⟩
                    case ra => rfl
                    case rb => rfl
                    case rc => rfl
                    case sa => exact HTa.out
                    case sb => exact HPB.out
                  case measure => first | (simp [lenOf]; done) | (simp [lenOf]; omega)
              · have hzb : (z == x) = false := by simpa using hz
                have hzb2 : (z != x) = true := by simpa using hz
                have HZN := Lib.hid hz
                clear hz
                have HG := Lib.hid (mg_a HMG.out HX.out (.inr ⟨O, z, rfl, HZN.out⟩))
                go_wp2
                go_quiet (fail)
                have f1 : (1 : Int) ≤ ((nat : Nat) : Int) + 1 := by omega
                have f2 : ((nat : Nat) : Int) + 1 ≤ ((c1t : Nat) : Int) + 1 := by omega
                have f3 : (1 : Int) ≤ ((c1t : Nat) : Int) + 1 := by omega
                have f4 : ((not : Nat) : Int) ≤ 100000000 := by omega
                have HBD := Lib.hid (And.intro hsum (And.intro hc1m (And.intro hc2m (And.intro hc1 hc2))))
                clear hsum hc1m hc2m hc1 hc2
                have HOW2 : Hid (OwnI (wr.drewN nq) w2.heap.size _ _) := HOW
                have HBL2 := Lib.hid (bl_trans HBL.out (drewN_below wr nq))
                have hrow := ownI_row HOW2.out HO.out
                have HRO := Lib.hid hrow
                clear hrow HBL HOW
                by_cases hct : c1t = 0
                ·
                  go_wp2_with (at_builtin; refine wpList_append_own _ rfl _ _ 22 rfl w2.heap.size 3 i0 (.int .i64 0) 1 8 Tryz.underlying22 hinf hz0 hz1 hz2 rfl (by decide) (.slice (some ⟨go, 0, none⟩) (not + 1) d) (not + 1) _ rfl (HRO.out.alloc _) ⟨wr.heap.size, 0, none⟩ 1 1 [.int .i64 x] rfl rfl (cells_one_new _ _ _) (by simp [Value.oneCell']) (by have := HBD.out.1; simp only [maxLen]; omega) (by have := HBD.out.1; omega) (by have : w2.heap.size ≤ wr.heap.size := HBL2.out.size; simp; omega) ?_)
                  intro v5 w5 hown5 hgrow5 _
                  have hO5 : OwnI w5 w2.heap.size v5 ((O ++ [z]) ++ [x]) := ownI_appended HO.out.symm (by rw [List.map_append, List.append_assoc]; exact hown5)
                  have hb5 : Below w2.heap.size w2 w5 := (HBL2.out.alloc HBL2.out.size _).grown hgrow5 (by have : w2.heap.size ≤ wr.heap.size := HBL2.out.size; simp; omega) (fun k hk => (HRO.out.lt k hk).1)
                  obtain ⟨q5, d5, nx, HK5, rfl, HO5⟩ := ownI_open hO5
                  have HB5 := Lib.hid hb5
                  have hnx : (nx : Int) = ((not : Nat) : Int) + 1 + 1 := by have e1 := HK5.out; have e2 := HO.out; rw [List.length_append, ← e2] at e1; simp at e1; omega
                  clear hown5 hgrow5 hO5 hb5
                  go_wp2
                  obtain ⟨hsum, hc1m, hc2m, hc1, hc2⟩ := HBD.out
                  go_roundw
                  case rel =>
                    refine ⟨(some ⟨ba, oa, none⟩), nat, 0, p2, _, c2, q5, nx, d5, At, _, (O ++ [z] ++ [x]), ?ra, ?rb, ?rc, by omega, by omega, by omega, by omega, by omega, (by have := HSM.out; show _ ≤ _; omega), HNa, HB, HK5, ?sa, ?sb, HO5.out, HG.out, HB5.out⟩
                    case ra => rfl
                    case rb => rfl
                    case rc => rfl
                    case sa => exact HZa.out hct _
                    case sb => exact HPB.out
                  case measure => first | (simp [lenOf]; done) | (simp [lenOf]; omega)
                ·
                  go_wp2_with (at_builtin; refine wpList_append_own _ rfl _ _ 22 rfl w2.heap.size 3 i0 (.int .i64 0) 1 8 Tryz.underlying22 hinf hz0 hz1 hz2 rfl (by decide) (.slice (some ⟨go, 0, none⟩) (not + 1) d) (not + 1) _ rfl (HRO.out.alloc _) ⟨wr.heap.size, 0, none⟩ 1 1 [.int .i64 x] rfl rfl (cells_one_new _ _ _) (by simp [Value.oneCell']) (by have := HBD.out.1; simp only [maxLen]; omega) (by have := HBD.out.1; omega) (by have : w2.heap.size ≤ wr.heap.size := HBL2.out.size; simp; omega) ?_)
                  intro v5 w5 hown5 hgrow5 _
                  have hO5 : OwnI w5 w2.heap.size v5 ((O ++ [z]) ++ [x]) := ownI_appended HO.out.symm (by rw [List.map_append, List.append_assoc]; exact hown5)
                  have hb5 : Below w2.heap.size w2 w5 := (HBL2.out.alloc HBL2.out.size _).grown hgrow5 (by have : w2.heap.size ≤ wr.heap.size := HBL2.out.size; simp; omega) (fun k hk => (HRO.out.lt k hk).1)
                  obtain ⟨q5, d5, nx, HK5, rfl, HO5⟩ := ownI_open hO5
                  have HB5 := Lib.hid hb5
                  have hnx : (nx : Int) = ((not : Nat) : Int) + 1 + 1 := by have e1 := HK5.out; have e2 := HO.out; rw [List.length_append, ← e2] at e1; simp at e1; omega
                  clear hown5 hgrow5 hO5 hb5
                  go_wp2
                  obtain ⟨hsum, hc1m, hc2m, hc1, hc2⟩ := HBD.out
                  go_roundw
                  case rel =>
                    refine ⟨(some ⟨ba, oa + 1, none⟩), nat, c1t, p2, _, c2, q5, nx, d5, At, _, (O ++ [z] ++ [x]), ?ra, ?rb, ?rc, by omega, by omega, by omega, by omega, by omega, (by have := HSM.out; show _ ≤ _; omega), HNa, HB, HK5, ?sa, ?sb, HO5.out, HG.out, HB5.out⟩
                    case ra => rfl
                    case rb => rfl
                    case rc => rfl
                    case sa => exact HTa.out
                    case sb => exact HPB.out
                  case measure => first | (simp [lenOf]; done) | (simp [lenOf]; omega)
          · have hb1 : (0 : Int) < nb := by omega
            obtain ⟨y, Bt, nbt, c2t, bb, ob, rfl, rfl, rfl, rfl, hcellb, HTb, HZb, HNb⟩ := mg_open HB.out HPB.out (show 0 < nb by omega) (show nb ≤ c2 by omega) HBL.out
            have hneb : (((nbt : Nat) : Int) + 1 == 0) = false := by simp; omega
            have hgtb : decide ((0 : Int) < ((nbt : Nat) : Int) + 1) = true := decide_eq_true (by omega)
            have hw5 : IntKind.i64.wrap (((nat : Nat) : Int) + 1 + (((nbt : Nat) : Int) + 1)) = ((nat : Nat) : Int) + 1 + (((nbt : Nat) : Int) + 1) := by rw [IntKind.wrap_i64]; omega
            have hg5 : (0 : Int) < ((nat : Nat) : Int) + 1 + (((nbt : Nat) : Int) + 1) := by omega
            by_cases hxy : x ≤ y
            · have hd : decide (x ≤ y) = true := by simpa using hxy
              have HX := Lib.hid (mg_all HMG.out.2.1 hxy)
              rcases ints_snoc out with rfl | ⟨O, z, rfl⟩
              · obtain rfl : no = 0 := by have := HO.out; simp at this; exact this
                have HG := Lib.hid (mg_a HMG.out HX.out (.inl rfl))
                go_wp2
                go_quiet (fail)
                have f1 : (1 : Int) ≤ ((nat : Nat) : Int) + 1 := by omega
                have f2 : ((nat : Nat) : Int) + 1 ≤ ((c1t : Nat) : Int) + 1 := by omega
                have f3 : (1 : Int) ≤ ((c1t : Nat) : Int) + 1 := by omega
                have HBD := Lib.hid (And.intro hsum (And.intro hc1m (And.intro hc2m (And.intro hc1 hc2))))
                clear hsum hc1m hc2m hc1 hc2
                have HOW2 : Hid (OwnI (wr.drewN nq) w2.heap.size _ _) := HOW
                have HBL2 := Lib.hid (bl_trans HBL.out (drewN_below wr nq))
                have hrow := ownI_row HOW2.out HO.out
                have HRO := Lib.hid hrow
                clear hrow HBL HOW
                by_cases hct : c1t = 0
                ·
                  go_wp2_with (at_builtin; refine wpList_append_own _ rfl _ _ 22 rfl w2.heap.size 3 i0 (.int .i64 0) 1 8 Tryz.underlying22 hinf hz0 hz1 hz2 rfl (by decide) (.slice q 0 d) 0 _ rfl (HRO.out.alloc _) ⟨wr.heap.size, 0, none⟩ 1 1 [.int .i64 x] rfl rfl (cells_one_new _ _ _) (by simp [Value.oneCell']) (by have := HBD.out.1; simp only [maxLen]; omega) (by have := HBD.out.1; omega) (by have : w2.heap.size ≤ wr.heap.size := HBL2.out.size; simp; omega) ?_)
                  intro v5 w5 hown5 hgrow5 _
                  have hO5 : OwnI w5 w2.heap.size v5 ([] ++ [x]) := ownI_appended HO.out.symm hown5
                  have hb5 : Below w2.heap.size w2 w5 := (HBL2.out.alloc HBL2.out.size _).grown hgrow5 (by have : w2.heap.size ≤ wr.heap.size := HBL2.out.size; simp; omega) (fun k hk => (HRO.out.lt k hk).1)
                  obtain ⟨q5, d5, nx, HK5, rfl, HO5⟩ := ownI_open hO5
                  have HB5 := Lib.hid hb5
                  have hnx : (nx : Int) = 0 + 1 := by have e1 := HK5.out; have e2 := HO.out; rw [List.length_append, ← e2] at e1; simp at e1; omega
                  clear hown5 hgrow5 hO5 hb5
                  go_wp2
                  obtain ⟨hsum, hc1m, hc2m, hc1, hc2⟩ := HBD.out
                  go_roundw
                  case rel =>
                    refine ⟨(some ⟨ba, oa, none⟩), nat, 0, (some ⟨bb, ob, none⟩), _, (c2t + 1), q5, nx, d5, At, _, ([] ++ [x]), ?ra, ?rb, ?rc, by omega, by omega, by omega, by omega, by omega, (by have := HSM.out; show _ ≤ _; omega), HNa, HB, HK5, ?sa, ?sb, HO5.out, HG.out, HB5.out⟩
                    case ra => rfl
                    case rb => rfl
                    case rc => rfl
                    case sa => exact HZa.out hct _
                    case sb => exact HPB.out
                  case measure => first | (simp [lenOf]; done) | (simp [lenOf]; omega)
                ·
                  go_wp2_with (at_builtin; refine wpList_append_own _ rfl _ _ 22 rfl w2.heap.size 3 i0 (.int .i64 0) 1 8 Tryz.underlying22 hinf hz0 hz1 hz2 rfl (by decide) (.slice q 0 d) 0 _ rfl (HRO.out.alloc _) ⟨wr.heap.size, 0, none⟩ 1 1 [.int .i64 x] rfl rfl (cells_one_new _ _ _) (by simp [Value.oneCell']) (by have := HBD.out.1; simp only [maxLen]; omega) (by have := HBD.out.1; omega) (by have : w2.heap.size ≤ wr.heap.size := HBL2.out.size; simp; omega) ?_)
                  intro v5 w5 hown5 hgrow5 _
                  have hO5 : OwnI w5 w2.heap.size v5 ([] ++ [x]) := ownI_appended HO.out.symm hown5
                  have hb5 : Below w2.heap.size w2 w5 := (HBL2.out.alloc HBL2.out.size _).grown hgrow5 (by have : w2.heap.size ≤ wr.heap.size := HBL2.out.size; simp; omega) (fun k hk => (HRO.out.lt k hk).1)
                  obtain ⟨q5, d5, nx, HK5, rfl, HO5⟩ := ownI_open hO5
                  have HB5 := Lib.hid hb5
                  have hnx : (nx : Int) = 0 + 1 := by have e1 := HK5.out; have e2 := HO.out; rw [List.length_append, ← e2] at e1; simp at e1; omega
                  clear hown5 hgrow5 hO5 hb5
                  go_wp2
                  obtain ⟨hsum, hc1m, hc2m, hc1, hc2⟩ := HBD.out
                  go_roundw
                  case rel =>
                    refine ⟨(some ⟨ba, oa + 1, none⟩), nat, c1t, (some ⟨bb, ob, none⟩), _, (c2t + 1), q5, nx, d5, At, _, ([] ++ [x]), ?ra, ?rb, ?rc, by omega, by omega, by omega, by omega, by omega, (by have := HSM.out; show _ ≤ _; omega), HNa, HB, HK5, ?sa, ?sb, HO5.out, HG.out, HB5.out⟩
                    case ra => rfl
                    case rb => rfl
                    case rc => rfl
                    case sa => exact HTa.out
                    case sb => exact HPB.out
                  case measure => first | (simp [lenOf]; done) | (simp [lenOf]; omega)
              · obtain ⟨not, go, rfl, rfl, hcello⟩ := mg_last HOW.out HO.out
                have hneo : (((not : Nat) : Int) + 1 == 0) = false := by simp; omega
                by_cases hz : z = x
                · subst hz
                  have HG := Lib.hid (mg_a0 HMG.out)
                  go_wp2
                  go_quiet (fail)
                  have f1 : (1 : Int) ≤ ((nat : Nat) : Int) + 1 := by omega
                  have f2 : ((nat : Nat) : Int) + 1 ≤ ((c1t : Nat) : Int) + 1 := by omega
                  have f3 : (1 : Int) ≤ ((c1t : Nat) : Int) + 1 := by omega
                  have f4 : ((not : Nat) : Int) ≤ 100000000 := by omega
                  have HBD := Lib.hid (And.intro hsum (And.intro hc1m (And.intro hc2m (And.intro hc1 hc2))))
                  clear hsum hc1m hc2m hc1 hc2
                  have HOW2 : Hid (OwnI (wr.drewN nq) w2.heap.size _ _) := HOW
                  have HBL2 := Lib.hid (bl_trans HBL.out (drewN_below wr nq))
                  have hrow := ownI_row HOW2.out HO.out
                  have HRO := Lib.hid hrow
                  clear hrow HBL HOW
                  by_cases hct : c1t = 0
                  ·
                    go_wp2
                    obtain ⟨hsum, hc1m, hc2m, hc1, hc2⟩ := HBD.out
                    go_roundw
                    case rel =>
                      refine ⟨(some ⟨ba, oa, none⟩), nat, 0, (some ⟨bb, ob, none⟩), _, (c2t + 1), (some ⟨go, 0, none⟩), not + 1, d, At, _, (O ++ [z]), ?ra, ?rb, ?rc, by omega, by omega, by omega, by omega, by omega, (by have := HSM.out; show _ ≤ _; omega), HNa, HB, HO, ?sa, ?sb, HOW2.out, HG.out, HBL2.out⟩
                      case ra => rfl
                      case rb => rfl
                      case rc => rfl
                      case sa => exact HZa.out hct _
                      case sb => exact HPB.out
                    case measure => first | (simp [lenOf]; done) | (simp [lenOf]; omega)
                  ·
                    go_wp2
                    obtain ⟨hsum, hc1m, hc2m, hc1, hc2⟩ := HBD.out
                    go_roundw
                    case rel =>
                      refine ⟨(some ⟨ba, oa + 1, none⟩), nat, c1t, (some ⟨bb, ob, none⟩), _, (c2t + 1), (some ⟨go, 0, none⟩), not + 1, d, At, _, (O ++ [z]), ?ra, ?rb, ?rc, by omega, by omega, by omega, by omega, by omega, (by have := HSM.out; show _ ≤ _; omega), HNa, HB, HO, ?sa, ?sb, HOW2.out, HG.out, HBL2.out⟩
                      case ra => rfl
                      case rb => rfl
                      case rc => rfl
                      case sa => exact HTa.out
                      case sb => exact HPB.out
                    case measure => first | (simp [lenOf]; done) | (simp [lenOf]; omega)
                · have hzb : (z == x) = false := by simpa using hz
                  have hzb2 : (z != x) = true := by simpa using hz
                  have HZN := Lib.hid hz
                  clear hz
                  have HG := Lib.hid (mg_a HMG.out HX.out (.inr ⟨O, z, rfl, HZN.out⟩))
                  go_wp2
                  go_quiet (fail)
                  have f1 : (1 : Int) ≤ ((nat : Nat) : Int) + 1 := by omega
                  have f2 : ((nat : Nat) : Int) + 1 ≤ ((c1t : Nat) : Int) + 1 := by omega
                  have f3 : (1 : Int) ≤ ((c1t : Nat) : Int) + 1 := by omega
                  have f4 : ((not : Nat) : Int) ≤ 100000000 := by omega
                  have HBD := Lib.hid (And.intro hsum (And.intro hc1m (And.intro hc2m (And.intro hc1 hc2))))
                  clear hsum hc1m hc2m hc1 hc2
                  have HOW2 : Hid (OwnI (wr.drewN nq) w2.heap.size _ _) := HOW
                  have HBL2 := Lib.hid (bl_trans HBL.out (drewN_below wr nq))
                  have hrow := ownI_row HOW2.out HO.out
                  have HRO := Lib.hid hrow
                  clear hrow HBL HOW
                  by_cases hct : c1t = 0
                  ·
                    go_wp2_with (at_builtin; refine wpList_append_own _ rfl _ _ 22 rfl w2.heap.size 3 i0 (.int .i64 0) 1 8 Tryz.underlying22 hinf hz0 hz1 hz2 rfl (by decide) (.slice (some ⟨go, 0, none⟩) (not + 1) d) (not + 1) _ rfl (HRO.out.alloc _) ⟨wr.heap.size, 0, none⟩ 1 1 [.int .i64 x] rfl rfl (cells_one_new _ _ _) (by simp [Value.oneCell']) (by have := HBD.out.1; simp only [maxLen]; omega) (by have := HBD.out.1; omega) (by have : w2.heap.size ≤ wr.heap.size := HBL2.out.size; simp; omega) ?_)
                    intro v5 w5 hown5 hgrow5 _
                    have hO5 : OwnI w5 w2.heap.size v5 ((O ++ [z]) ++ [x]) := ownI_appended HO.out.symm (by rw [List.map_append, List.append_assoc]; exact hown5)
                    have hb5 : Below w2.heap.size w2 w5 := (HBL2.out.alloc HBL2.out.size _).grown hgrow5 (by have : w2.heap.size ≤ wr.heap.size := HBL2.out.size; simp; omega) (fun k hk => (HRO.out.lt k hk).1)
                    obtain ⟨q5, d5, nx, HK5, rfl, HO5⟩ := ownI_open hO5
                    have HB5 := Lib.hid hb5
                    have hnx : (nx : Int) = ((not : Nat) : Int) + 1 + 1 := by have e1 := HK5.out; have e2 := HO.out; rw [List.length_append, ← e2] at e1; simp at e1; omega
                    clear hown5 hgrow5 hO5 hb5
                    go_wp2
                    obtain ⟨hsum, hc1m, hc2m, hc1, hc2⟩ := HBD.out
                    go_roundw
                    case rel =>
                      refine ⟨(some ⟨ba, oa, none⟩), nat, 0, (some ⟨bb, ob, none⟩), _, (c2t + 1), q5, nx, d5, At, _, (O ++ [z] ++ [x]), ?ra, ?rb, ?rc, by omega, by omega, by omega, by omega, by omega, (by have := HSM.out; show _ ≤ _; omega), HNa, HB, HK5, ?sa, ?sb, HO5.out, HG.out, HB5.out⟩
                      case ra => rfl
                      case rb => rfl
                      case rc => rfl
                      case sa => exact HZa.out hct _
                      case sb => exact HPB.out
                    case measure => first | (simp [lenOf]; done) | (simp [lenOf]; omega)
                  ·
                    go_wp2_with (at_builtin; refine wpList_append_own _ rfl _ _ 22 rfl w2.heap.size 3 i0 (.int .i64 0) 1 8 Tryz.underlying22 hinf hz0 hz1 hz2 rfl (by decide) (.slice (some ⟨go, 0, none⟩) (not + 1) d) (not + 1) _ rfl (HRO.out.alloc _) ⟨wr.heap.size, 0, none⟩ 1 1 [.int .i64 x] rfl rfl (cells_one_new _ _ _) (by simp [Value.oneCell']) (by have := HBD.out.1; simp only [maxLen]; omega) (by have := HBD.out.1; omega) (by have : w2.heap.size ≤ wr.heap.size := HBL2.out.size; simp; omega) ?_)
                    intro v5 w5 hown5 hgrow5 _
                    have hO5 : OwnI w5 w2.heap.size v5 ((O ++ [z]) ++ [x]) := ownI_appended HO.out.symm (by rw [List.map_append, List.append_assoc]; exact hown5)
                    have hb5 : Below w2.heap.size w2 w5 := (HBL2.out.alloc HBL2.out.size _).grown hgrow5 (by have : w2.heap.size ≤ wr.heap.size := HBL2.out.size; simp; omega) (fun k hk => (HRO.out.lt k hk).1)
                    obtain ⟨q5, d5, nx, HK5, rfl, HO5⟩ := ownI_open hO5
                    have HB5 := Lib.hid hb5
                    have hnx : (nx : Int) = ((not : Nat) : Int) + 1 + 1 := by have e1 := HK5.out; have e2 := HO.out; rw [List.length_append, ← e2] at e1; simp at e1; omega
                    clear hown5 hgrow5 hO5 hb5
                    go_wp2
                    obtain ⟨hsum, hc1m, hc2m, hc1, hc2⟩ := HBD.out
                    go_roundw
                    case rel =>
                      refine ⟨(some ⟨ba, oa + 1, none⟩), nat, c1t, (some ⟨bb, ob, none⟩), _, (c2t + 1), q5, nx, d5, At, _, (O ++ [z] ++ [x]), ?ra, ?rb, ?rc, by omega, by omega, by omega, by omega, by omega, (by have := HSM.out; show _ ≤ _; omega), HNa, HB, HK5, ?sa, ?sb, HO5.out, HG.out, HB5.out⟩
                      case ra => rfl
                      case rb => rfl
                      case rc => rfl
                      case sa => exact HTa.out
                      case sb => exact HPB.out
                    case measure => first | (simp [lenOf]; done) | (simp [lenOf]; omega)
            · have hd : decide (x ≤ y) = false := by simpa using hxy
              have HX := Lib.hid (mg_all HMG.out.1 (show y ≤ x by omega))
              rcases ints_snoc out with rfl | ⟨O, z, rfl⟩
              · obtain rfl : no = 0 := by have := HO.out; simp at this; exact this
                have HG := Lib.hid (mg_b HMG.out HX.out (.inl rfl))
                go_wp2
                go_quiet (fail)
                have f1 : (1 : Int) ≤ ((nbt : Nat) : Int) + 1 := by omega
                have f2 : ((nbt : Nat) : Int) + 1 ≤ ((c2t : Nat) : Int) + 1 := by omega
                have f3 : (1 : Int) ≤ ((c2t : Nat) : Int) + 1 := by omega
                have HBD := Lib.hid (And.intro hsum (And.intro hc1m (And.intro hc2m (And.intro hc1 hc2))))
                clear hsum hc1m hc2m hc1 hc2
                have HOW2 : Hid (OwnI (wr.drewN nq) w2.heap.size _ _) := HOW
                have HBL2 := Lib.hid (bl_trans HBL.out (drewN_below wr nq))
                have hrow := ownI_row HOW2.out HO.out
                have HRO := Lib.hid hrow
                clear hrow HBL HOW
                by_cases hct : c2t = 0
                ·
                  go_wp2_with (at_builtin; refine wpList_append_own _ rfl _ _ 22 rfl w2.heap.size 3 i0 (.int .i64 0) 1 8 Tryz.underlying22 hinf hz0 hz1 hz2 rfl (by decide) (.slice q 0 d) 0 _ rfl (HRO.out.alloc _) ⟨wr.heap.size, 0, none⟩ 1 1 [.int .i64 y] rfl rfl (cells_one_new _ _ _) (by simp [Value.oneCell']) (by have := HBD.out.1; simp only [maxLen]; omega) (by have := HBD.out.1; omega) (by have : w2.heap.size ≤ wr.heap.size := HBL2.out.size; simp; omega) ?_)
                  intro v5 w5 hown5 hgrow5 _
                  have hO5 : OwnI w5 w2.heap.size v5 ([] ++ [y]) := ownI_appended HO.out.symm hown5
                  have hb5 : Below w2.heap.size w2 w5 := (HBL2.out.alloc HBL2.out.size _).grown hgrow5 (by have : w2.heap.size ≤ wr.heap.size := HBL2.out.size; simp; omega) (fun k hk => (HRO.out.lt k hk).1)
                  obtain ⟨q5, d5, nx, HK5, rfl, HO5⟩ := ownI_open hO5
                  have HB5 := Lib.hid hb5
                  have hnx : (nx : Int) = 0 + 1 := by have e1 := HK5.out; have e2 := HO.out; rw [List.length_append, ← e2] at e1; simp at e1; omega
                  clear hown5 hgrow5 hO5 hb5
                  go_wp2
                  obtain ⟨hsum, hc1m, hc2m, hc1, hc2⟩ := HBD.out
                  go_roundw
                  case rel =>
                    refine ⟨(some ⟨ba, oa, none⟩), _, (c1t + 1), (some ⟨bb, ob, none⟩), nbt, 0, q5, nx, d5, _, Bt, ([] ++ [y]), ?ra, ?rb, ?rc, by omega, by omega, by omega, by omega, by omega, (by have := HSM.out; show _ ≤ _; omega), HA, HNb, HK5, ?sa, ?sb, HO5.out, HG.out, HB5.out⟩
                    case ra => rfl
                    case rb => rfl
                    case rc => rfl
                    case sa => exact HPA.out
                    case sb => exact HZb.out hct _
                  case measure => first | (simp [lenOf]; done) | (simp [lenOf]; omega)
                ·
                  go_wp2_with (at_builtin; refine wpList_append_own _ rfl _ _ 22 rfl w2.heap.size 3 i0 (.int .i64 0) 1 8 Tryz.underlying22 hinf hz0 hz1 hz2 rfl (by decide) (.slice q 0 d) 0 _ rfl (HRO.out.alloc _) ⟨wr.heap.size, 0, none⟩ 1 1 [.int .i64 y] rfl rfl (cells_one_new _ _ _) (by simp [Value.oneCell']) (by have := HBD.out.1; simp only [maxLen]; omega) (by have := HBD.out.1; omega) (by have : w2.heap.size ≤ wr.heap.size := HBL2.out.size; simp; omega) ?_)
                  intro v5 w5 hown5 hgrow5 _
                  have hO5 : OwnI w5 w2.heap.size v5 ([] ++ [y]) := ownI_appended HO.out.symm hown5
                  have hb5 : Below w2.heap.size w2 w5 := (HBL2.out.alloc HBL2.out.size _).grown hgrow5 (by have : w2.heap.size ≤ wr.heap.size := HBL2.out.size; simp; omega) (fun k hk => (HRO.out.lt k hk).1)
                  obtain ⟨q5, d5, nx, HK5, rfl, HO5⟩ := ownI_open hO5
                  have HB5 := Lib.hid hb5
                  have hnx : (nx : Int) = 0 + 1 := by have e1 := HK5.out; have e2 := HO.out; rw [List.length_append, ← e2] at e1; simp at e1; omega
                  clear hown5 hgrow5 hO5 hb5
                  go_wp2
                  obtain ⟨hsum, hc1m, hc2m, hc1, hc2⟩ := HBD.out
                  go_roundw
                  case rel =>
                    refine ⟨(some ⟨ba, oa, none⟩), _, (c1t + 1), (some ⟨bb, ob + 1, none⟩), nbt, c2t, q5, nx, d5, _, Bt, ([] ++ [y]), ?ra, ?rb, ?rc, by omega, by omega, by omega, by omega, by omega, (by have := HSM.out; show _ ≤ _; omega), HA, HNb, HK5, ?sa, ?sb, HO5.out, HG.out, HB5.out⟩
                    case ra => rfl
                    case rb => rfl
                    case rc => rfl
                    case sa => exact HPA.out
                    case sb => exact HTb.out
                  case measure => first | (simp [lenOf]; done) | (simp [lenOf]; omega)
              · obtain ⟨not, go, rfl, rfl, hcello⟩ := mg_last HOW.out HO.out
                have hneo : (((not : Nat) : Int) + 1 == 0) = false := by simp; omega
                by_cases hz : z = y
                · subst hz
                  have HG := Lib.hid (mg_b0 HMG.out)
                  go_wp2
                  go_quiet (fail)
                  have f1 : (1 : Int) ≤ ((nbt : Nat) : Int) + 1 := by omega
                  have f2 : ((nbt : Nat) : Int) + 1 ≤ ((c2t : Nat) : Int) + 1 := by omega
                  have f3 : (1 : Int) ≤ ((c2t : Nat) : Int) + 1 := by omega
                  have f4 : ((not : Nat) : Int) ≤ 100000000 := by omega
                  have HBD := Lib.hid (And.intro hsum (And.intro hc1m (And.intro hc2m (And.intro hc1 hc2))))
                  clear hsum hc1m hc2m hc1 hc2
                  have HOW2 : Hid (OwnI (wr.drewN nq) w2.heap.size _ _) := HOW
                  have HBL2 := Lib.hid (bl_trans HBL.out (drewN_below wr nq))
                  have hrow := ownI_row HOW2.out HO.out
                  have HRO := Lib.hid hrow
                  clear hrow HBL HOW
                  by_cases hct : c2t = 0
                  ·
                    go_wp2
                    obtain ⟨hsum, hc1m, hc2m, hc1, hc2⟩ := HBD.out
                    go_roundw
                    case rel =>
                      refine ⟨(some ⟨ba, oa, none⟩), _, (c1t + 1), (some ⟨bb, ob, none⟩), nbt, 0, (some ⟨go, 0, none⟩), not + 1, d, _, Bt, (O ++ [z]), ?ra, ?rb, ?rc, by omega, by omega, by omega, by omega, by omega, (by have := HSM.out; show _ ≤ _; omega), HA, HNb, HO, ?sa, ?sb, HOW2.out, HG.out, HBL2.out⟩
                      case ra => rfl
                      case rb => rfl
                      case rc => rfl
                      case sa => exact HPA.out
                      case sb => exact HZb.out hct _
                    case measure => first | (simp [lenOf]; done) | (simp [lenOf]; omega)
                  ·
                    go_wp2
                    obtain ⟨hsum, hc1m, hc2m, hc1, hc2⟩ := HBD.out
                    go_roundw
                    case rel =>
                      refine ⟨(some ⟨ba, oa, none⟩), _, (c1t + 1), (some ⟨bb, ob + 1, none⟩), nbt, c2t, (some ⟨go, 0, none⟩), not + 1, d, _, Bt, (O ++ [z]), ?ra, ?rb, ?rc, by omega, by omega, by omega, by omega, by omega, (by have := HSM.out; show _ ≤ _; omega), HA, HNb, HO, ?sa, ?sb, HOW2.out, HG.out, HBL2.out⟩
                      case ra => rfl
                      case rb => rfl
                      case rc => rfl
                      case sa => exact HPA.out
                      case sb => exact HTb.out
                    case measure => first | (simp [lenOf]; done) | (simp [lenOf]; omega)
                · have hzb : (z == y) = false := by simpa using hz
                  have hzb2 : (z != y) = true := by simpa using hz
                  have HZN := Lib.hid hz
                  clear hz
                  have HG := Lib.hid (mg_b HMG.out HX.out (.inr ⟨O, z, rfl, HZN.out⟩))
                  go_wp2
                  go_quiet (fail)
                  have f1 : (1 : Int) ≤ ((nbt : Nat) : Int) + 1 := by omega
                  have f2 : ((nbt : Nat) : Int) + 1 ≤ ((c2t : Nat) : Int) + 1 := by omega
                  have f3 : (1 : Int) ≤ ((c2t : Nat) : Int) + 1 := by omega
                  have f4 : ((not : Nat) : Int) ≤ 100000000 := by omega
                  have HBD := Lib.hid (And.intro hsum (And.intro hc1m (And.intro hc2m (And.intro hc1 hc2))))
                  clear hsum hc1m hc2m hc1 hc2
                  have HOW2 : Hid (OwnI (wr.drewN nq) w2.heap.size _ _) := HOW
                  have HBL2 := Lib.hid (bl_trans HBL.out (drewN_below wr nq))
                  have hrow := ownI_row HOW2.out HO.out
                  have HRO := Lib.hid hrow
                  clear hrow HBL HOW
                  by_cases hct : c2t = 0
                  ·
                    go_wp2_with (at_builtin; refine wpList_append_own _ rfl _ _ 22 rfl w2.heap.size 3 i0 (.int .i64 0) 1 8 Tryz.underlying22 hinf hz0 hz1 hz2 rfl (by decide) (.slice (some ⟨go, 0, none⟩) (not + 1) d) (not + 1) _ rfl (HRO.out.alloc _) ⟨wr.heap.size, 0, none⟩ 1 1 [.int .i64 y] rfl rfl (cells_one_new _ _ _) (by simp [Value.oneCell']) (by have := HBD.out.1; simp only [maxLen]; omega) (by have := HBD.out.1; omega) (by have : w2.heap.size ≤ wr.heap.size := HBL2.out.size; simp; omega) ?_)
                    intro v5 w5 hown5 hgrow5 _
                    have hO5 : OwnI w5 w2.heap.size v5 ((O ++ [z]) ++ [y]) := ownI_appended HO.out.symm (by rw [List.map_append, List.append_assoc]; exact hown5)
                    have hb5 : Below w2.heap.size w2 w5 := (HBL2.out.alloc HBL2.out.size _).grown hgrow5 (by have : w2.heap.size ≤ wr.heap.size := HBL2.out.size; simp; omega) (fun k hk => (HRO.out.lt k hk).1)
                    obtain ⟨q5, d5, nx, HK5, rfl, HO5⟩ := ownI_open hO5
                    have HB5 := Lib.hid hb5
                    have hnx : (nx : Int) = ((not : Nat) : Int) + 1 + 1 := by have e1 := HK5.out; have e2 := HO.out; rw [List.length_append, ← e2] at e1; simp at e1; omega
                    clear hown5 hgrow5 hO5 hb5
                    go_wp2
                    obtain ⟨hsum, hc1m, hc2m, hc1, hc2⟩ := HBD.out
                    go_roundw
                    case rel =>
                      refine ⟨(some ⟨ba, oa, none⟩), _, (c1t + 1), (some ⟨bb, ob, none⟩), nbt, 0, q5, nx, d5, _, Bt, (O ++ [z] ++ [y]), ?ra, ?rb, ?rc, by omega, by omega, by omega, by omega, by omega, (by have := HSM.out; show _ ≤ _; omega), HA, HNb, HK5, ?sa, ?sb, HO5.out, HG.out, HB5.out⟩
                      case ra => rfl
                      case rb => rfl
                      case rc => rfl
                      case sa => exact HPA.out
                      case sb => exact HZb.out hct _
                    case measure => first | (simp [lenOf]; done) | (simp [lenOf]; omega)
                  ·
                    go_wp2_with (at_builtin; refine wpList_append_own _ rfl _ _ 22 rfl w2.heap.size 3 i0 (.int .i64 0) 1 8 Tryz.underlying22 hinf hz0 hz1 hz2 rfl (by decide) (.slice (some ⟨go, 0, none⟩) (not + 1) d) (not + 1) _ rfl (HRO.out.alloc _) ⟨wr.heap.size, 0, none⟩ 1 1 [.int .i64 y] rfl rfl (cells_one_new _ _ _) (by simp [Value.oneCell']) (by have := HBD.out.1; simp only [maxLen]; omega) (by have := HBD.out.1; omega) (by have : w2.heap.size ≤ wr.heap.size := HBL2.out.size; simp; omega) ?_)
                    intro v5 w5 hown5 hgrow5 _
                    have hO5 : OwnI w5 w2.heap.size v5 ((O ++ [z]) ++ [y]) := ownI_appended HO.out.symm (by rw [List.map_append, List.append_assoc]; exact hown5)
                    have hb5 : Below w2.heap.size w2 w5 := (HBL2.out.alloc HBL2.out.size _).grown hgrow5 (by have : w2.heap.size ≤ wr.heap.size := HBL2.out.size; simp; omega) (fun k hk => (HRO.out.lt k hk).1)
                    obtain ⟨q5, d5, nx, HK5, rfl, HO5⟩ := ownI_open hO5
                    have HB5 := Lib.hid hb5
                    have hnx : (nx : Int) = ((not : Nat) : Int) + 1 + 1 := by have e1 := HK5.out; have e2 := HO.out; rw [List.length_append, ← e2] at e1; simp at e1; omega
                    clear hown5 hgrow5 hO5 hb5
                    go_wp2
                    obtain ⟨hsum, hc1m, hc2m, hc1, hc2⟩ := HBD.out
                    go_roundw
                    case rel =>
                      refine ⟨(some ⟨ba, oa, none⟩), _, (c1t + 1), (some ⟨bb, ob + 1, none⟩), nbt, c2t, q5, nx, d5, _, Bt, (O ++ [z] ++ [y]), ?ra, ?rb, ?rc, by omega, by omega, by omega, by omega, by omega, (by have := HSM.out; show _ ≤ _; omega), HA, HNb, HK5, ?sa, ?sb, HO5.out, HG.out, HB5.out⟩
                      case ra => rfl
                      case rb => rfl
                      case rc => rfl
                      case sa => exact HPA.out
                      case sb => exact HTb.out
                    case measure => first | (simp [lenOf]; done) | (simp [lenOf]; omega)
end Go.Proofs.YtglgfpapackcdaaGreat
