/- FoldEnds: what its walk wants. -/
import Derived.Test.YtglgfpapackcdaaGreatGtd
import Derived.Test.YtglgfpapackcdaaGreatShelf

namespace Go.Proofs.YtglgfpapackcdaaGreat
open Go.RowKit Tnr

def numsL : List Int := [-9223372036854775808, -1, 0, 65, 75, 97, 107, 115, 383, 8490, 1114111, 1114112, 9223372036854775807]
def setL (b : Nat) : List SV := [(some ⟨b, 0, none⟩, 1, [(107, 112)]), (some ⟨b + 1, 0, none⟩, 1, [(65, 65)])]
structure Ctx (w1 : World) (bn : Nat) (W : World) : Prop where
  nu : ∀ k, k < 13 → W.cell? ⟨bn, k, none⟩ = some (.int .i64 (gi numsL k))
  s0 : SlS W (some ⟨bn + 3, 0, none⟩) (setL (bn + 1))
  s1 : SlS W (some ⟨bn + 3, 1, none⟩) [(some ⟨bn + 2, 0, none⟩, 1, [(65, 65)])]
  be : Below w1.heap.size w1 W
theorem Ctx.below {w1 W W' : World} {bn : Nat} (h : Ctx w1 bn W) (hb : Below W.heap.size W W') : Ctx w1 bn W' :=
  ⟨fun k hk => keep_cell hb (h.nu k hk), h.s0.below hb, h.s1.below hb, bl_trans h.be hb⟩
theorem ctx_below {w1 W W' : World} {bn : Nat} (h : Hid (Ctx w1 bn W)) (hb : Below W.heap.size W W') : Hid (Ctx w1 bn W') := h.out.below hb
theorem ctx_tells {w1 W : World} {B b bn : Nat} {F : List R} {P : List PV} (hc : Ctx w1 bn W) (h : Some0 W B b F P) (hz : ∀ x ∈ P, x.1.size ≤ 9223372036854775807 ∧ x.2.2.2.length ≤ 9223372036854775807) (c : Int) (z : ByteArray) (hzs : z.size ≤ 1000) :
    Calls Tryz.prog 5 #[.agg #[.slice (some ⟨b, 0, none⟩) 4 4, .slice (some ⟨b + 3, 0, none⟩) 2 2], .int .i64 c, .string z, .slice (some ⟨bn + 3, 0, none⟩) 2 2] W (fun e w' => e = .returned (.bool true) ∧ Hid (Below W.heap.size W w'))
    ∧ Calls Tryz.prog 5 #[.agg #[.slice (some ⟨b, 0, none⟩) 4 4, .slice (some ⟨b + 3, 0, none⟩) 2 2], .int .i64 c, .string z, .slice (some ⟨bn + 3, 1, none⟩) 1 1] W (fun e w' => e = .returned (.bool true) ∧ Hid (Below W.heap.size W w'))
    ∧ Calls Tryz.prog 5 #[.agg #[.slice (some ⟨b, 0, none⟩) 4 4, .slice (some ⟨b + 3, 0, none⟩) 2 2], .int .i64 c, .string z, .slice none 0 0] W (fun e w' => e = .returned (.bool true) ∧ Hid (Below W.heap.size W w')) := by
  refine ⟨tells_some h hz _ 2 2 (setL (bn + 1)) c z rfl hc.s0 (by decide) (fun i hi => ?_) (fun i hi h0 => ?_) hzs, tells_some h hz _ 1 1 _ c z rfl hc.s1 (by decide) (fun i hi => ?_) (fun i hi h0 => ?_) hzs, tells_some h hz none 0 0 [] c z rfl ⟨fun x hx => by simp at hx, .inl rfl⟩ (by decide) (fun i hi => by omega) (fun i hi => by omega) hzs⟩
  · match i, hi with
    | 0, _ => exact (by decide : 1 ≤ 100)
    | 1, _ => exact (by decide : 1 ≤ 100)
    | k + 2, h => exact absurd h (by omega)
  · match i, hi, h0 with
    | 0, _, h0 => cases h0
    | 1, _, h0 => cases h0
    | k + 2, h, _ => exact absurd h (by omega)
  · match i, hi with
    | 0, _ => exact (by decide : 1 ≤ 100)
    | k + 1, h => exact absurd h (by omega)
  · match i, hi, h0 with
    | 0, _, h0 => cases h0
    | k + 1, h, _ => exact absurd h (by omega)

theorem p0_small (b : Nat) : ∀ x ∈ P0 b, x.1.size ≤ 9223372036854775807 ∧ x.2.2.2.length ≤ 9223372036854775807 := by
  intro x hx
  simp only [P0, List.mem_cons, List.not_mem_nil, or_false] at hx
  rcases hx with rfl | rfl
  · exact ⟨by show 3 ≤ _; decide, by show 1 ≤ _; decide⟩
  · exact ⟨by show 2 ≤ _; decide, by show 1 ≤ _; decide⟩
theorem cell_far {w : World} {a b : Addr} {u v : Value} (h : w.cell? b = some v) (hb : a.block ≠ b.block) : (w.setCell a u).drew.cell? b = some v := by
  refine keep_cell (bl_drew _) ?_
  rw [World.cell?_setCell_other]
  · exact h
  · intro e; exact hb (by rw [e])
abbrev ST5 (w2 : World) (b5 b1 b2 bn k : Nat) (v : Int) (W : World) : Prop := W.cell? ⟨b5, 0, none⟩ = some (.slice (some ⟨b1, 0, none⟩) 4 4) ∧ W.cell? ⟨b5, 1, none⟩ = some (.slice (some ⟨b1 + 3, 0, none⟩) 2 2) ∧ W.cell? ⟨b5 + 1, 0, none⟩ = some (.slice (some ⟨b2, 0, none⟩) 4 4) ∧ W.cell? ⟨b5 + 1, 1, none⟩ = some (.slice (some ⟨b2 + 3, 0, none⟩) 2 2) ∧ W.cell? ⟨bn, k, none⟩ = some (.int .i64 v) ∧ Hid (Below w2.heap.size w2 W)
theorem st5_below {w2 W W' : World} {b5 b1 b2 bn k : Nat} {v : Int} (h : ST5 w2 b5 b1 b2 bn k v W) (hb : Hid (Below W.heap.size W W')) : ST5 w2 b5 b1 b2 bn k v W' :=
  ⟨keep_cell hb.out h.1, keep_cell hb.out h.2.1, keep_cell hb.out h.2.2.1, keep_cell hb.out h.2.2.2.1, keep_cell hb.out h.2.2.2.2.1, bl_trans h.2.2.2.2.2.out hb.out⟩
theorem st5_bel {w2 W : World} {b5 b1 b2 bn k : Nat} {v : Int} (h : ST5 w2 b5 b1 b2 bn k v W) : Below w2.heap.size w2 W := h.2.2.2.2.2.out
theorem bl_set {w0 w : World} (h : Below w0.heap.size w0 w) {a : Addr} (ha : w0.heap.size ≤ a.block) (u : Value) : Below w0.heap.size w0 (w.setCell a u).drew := (h.setCell ha u).drew

theorem Some0.grown {w y : World} {B b g : Nat} {F : List R} {P : List PV} (h : Some0 w B b F P) {cur : Array Value} {T : TypeId} (hb : Bx w g T cur) (hg : w.grownBy y (some g)) (h1 : b ≠ g) (h2 : b + 3 ≠ g) (hT : T ≠ 24) : Some0 y B b F P :=
  ⟨h.lo, Nat.lt_of_lt_of_le h.hi hg.size, World.ownsRow.kept h.fo hg (.inr (by simpa [Value.ownBlock] using h1)), World.ownsRow.kept h.po hg (.inr (by simpa [Value.ownBlock] using h2)), fun x hx => World.ownsRow.kept (h.ps x hx) hg (.inr (ownR_ne (h.ps x hx) hb hT))⟩
theorem ownF_neB {w : World} {z g : Nat} {v : Value} {l : List R} {cs : Array Value} (h : OwnF w z v l) (hb : Bx w g 30 cs) : v.ownBlock ≠ some g := by
  intro e
  rcases h.2 with ⟨rfl, _⟩ | ⟨g', cap, cur, rfl, _, hh, _⟩
  · simp [Value.ownBlock] at e
  · simp only [Value.ownBlock, Option.some.injEq] at e
    subst e
    rw [show w.heap[g']? = _ from hb] at hh
    simp only [Option.some.injEq, Obj.cells.injEq] at hh
    exact absurd hh.2.1 (by decide)
def srowF : Nat → Nat → List R
  | _, 0 => []
  | i, n + 1 => (((3 * i : Nat) : Int), ((3 * i + 1 : Nat) : Int)) :: srowF (i + 1) n
theorem srowF_len : ∀ (n i : Nat), (srowF i n).length = n
  | 0, _ => rfl
  | n + 1, i => by show (srowF (i + 1) n).length + 1 = n + 1; rw [srowF_len n]
theorem srowF_snoc : ∀ (n i : Nat), srowF i (n + 1) = srowF i n ++ [(((3 * (i + n) : Nat) : Int), ((3 * (i + n) + 1 : Nat) : Int))]
  | 0, i => rfl
  | n + 1, i => by
    have h := srowF_snoc n (i + 1)
    show (((3 * i : Nat) : Int), ((3 * i + 1 : Nat) : Int)) :: srowF (i + 1) (n + 1) = _
    rw [h, show i + 1 + n = i + (n + 1) by omega]
    rfl
theorem srowF_right : ∀ (n i : Nat) (last : Int), last + 1 < ((3 * i : Nat) : Int) → 3 * (i + n) + 1 ≤ 1114111 → rfB last (srowF i n) = true
  | 0, _, _, _, _ => rfl
  | n + 1, i, last, h1, h2 => by
    have h := srowF_right n (i + 1) ((3 * i + 1 : Nat) : Int) (by omega) (by omega)
    show (decide (last + 1 < ((3 * i : Nat) : Int)) && decide (((3 * i : Nat) : Int) ≤ ((3 * i + 1 : Nat) : Int)) && decide (((3 * i + 1 : Nat) : Int) ≤ 1114111) && rfB ((3 * i + 1 : Nat) : Int) (srowF (i + 1) n)) = true
    rw [h, decide_eq_true h1, decide_eq_true (by omega), decide_eq_true (by omega)]
    rfl
def PN (b : Nat) (q : Option Addr) (c : Nat) (S : List R) : List PV := [(⟨#[65, 110, 121]⟩, some ⟨b + 1, 0, none⟩, 1, [(0, 1114111)]), (⟨#[76, 117]⟩, q, c, S)]
theorem trN (b : Nat) (q : Option Addr) (c n : Nat) (hn : n ≤ 5000) : TR F0 (PN b q c (srowF 0 n)) ↔ n ≤ 2000 := by
  obtain ⟨hF, hP⟩ := tr0 b
  constructor
  · intro h
    have := (h.2 1 (by show 1 < 2; decide)).2.2.1
    rw [show (gp (PN b q c (srowF 0 n)) 1).2.2.2 = srowF 0 n from rfl, srowF_len] at this
    exact this
  · intro h
    refine ⟨hF, fun i hi => ?_⟩
    match i, hi with
    | 0, _ => exact hP 0 (by show 0 < 2; decide)
    | 1, _ =>
      obtain ⟨a1, a2, _, _⟩ := hP 1 (by show 1 < 2; decide)
      exact ⟨a1, a2, by show (srowF 0 n).length ≤ 2000; rw [srowF_len]; exact h, srowF_right n 0 (-2) (by decide) (by omega)⟩
    | i + 2, h => exact absurd h (by simp [PN])
theorem Some0.more {w y : World} {B b n n2 c c2 : Nat} {q q2 : Option Addr} {S S2 : List R} (h : Some0 w B b F0 (PN b q c S)) (hg : w.grownBy y (Value.slice q n c).ownBlock) (_hl : n = S.length) (hq : ∀ g, (Value.slice q n c).ownBlock = some g → b + 3 < g) (ho : OwnR y B (.slice q2 n2 c2) S2) (hl2 : n2 = S2.length) : Some0 (y.setCell ⟨b + 3, 3, none⟩ (.slice q2 n2 c2)) B b F0 (PN b q2 c2 S2) := by
  have ne : ∀ k, k ≤ b + 3 → some k ≠ (Value.slice q n c).ownBlock := fun k hk e => by have := hq k e.symm; omega
  have fo := World.ownsRow.kept h.fo hg (.inr (ne b (by omega)))
  have po := World.ownsRow.kept h.po hg (.inr (ne (b + 3) (by omega)))
  obtain ⟨cur, hcur⟩ := ownP_block (F := PN b q c S) po
  have p0 := h.ps (⟨#[65, 110, 121]⟩, some ⟨b + 1, 0, none⟩, 1, [(0, 1114111)]) (by simp [PN])
  have k0 : OwnR y B (.slice (some ⟨b + 1, 0, none⟩) 1 1) [(0, 1114111)] := World.ownsRow.kept p0 hg (.inr (ne (b + 1) (by omega)))
  refine ⟨h.lo, by rw [World.size_setCell]; exact Nat.lt_of_lt_of_le h.hi hg.size, ownsRow_setCell_other (a := ⟨b + 3, 3, none⟩) fo (by simp [Value.ownBlock]) _, ?_, fun x hx => ?_⟩
  · have := (po.stored 3 (.slice q2 n2 c2)).1
    rw [hl2] at this ⊢
    exact this
  · simp only [PN, List.mem_cons, List.not_mem_nil, or_false] at hx
    rcases hx with rfl | rfl
    · exact ownsRow_setCell_other (a := ⟨b + 3, 3, none⟩) k0 (ownR_ne k0 hcur (by decide)) _
    · rw [hl2] at ho
      exact ownsRow_setCell_other (a := ⟨b + 3, 3, none⟩) ho (ownR_ne ho hcur (by decide)) _
theorem conv1 (w : World) (c : Nat) (hc : c < 256) :
    (convert 35 9 (.slice (some ⟨w.heap.size, 0, none⟩) 1 1)).run Tryz.prog (w.alloc (.cells #[.int .u8 (c : Nat)] 5)) = .ok (.string ⟨#[UInt8.ofNat c]⟩) (w.alloc (.cells #[.int .u8 (c : Nat)] 5)) := by
  have h := run_convert_bytes_back (P := Tryz.prog) (w.alloc (.cells #[.int .u8 (c : Nat)] 5)) 35 9 5 ⟨w.heap.size, 0, none⟩ 1 [UInt8.ofNat c] Tryz.underlying35 Tryz.underlying5 Tryz.underlying9 (fun j hj => by
    have e2 : (⟨w.heap.size, 0, none⟩ : Addr).add j = ⟨w.heap.size, j, none⟩ := by simp [Addr.add]; exact Eq.symm
    rw [e2, World.cell?_alloc_at _ _ _ _ rfl]
    match j, hj with
    | 0, _ => show some _ = some (Value.int .u8 ((UInt8.ofNat c).toNat : Int)); rw [UInt8.toNat_ofNat', Nat.mod_eq_of_lt hc]; rfl)
  exact h
theorem pset_small {P : List PV} {i : Nat} {x0 : PV} (h : ∀ x ∈ P, x.1.size ≤ 9223372036854775807 ∧ x.2.2.2.length ≤ 9223372036854775807) (h0 : x0.1.size ≤ 9223372036854775807 ∧ x0.2.2.2.length ≤ 9223372036854775807) : ∀ x ∈ P.set i x0, x.1.size ≤ 9223372036854775807 ∧ x.2.2.2.length ≤ 9223372036854775807 := fun x hx => by
  rcases mem_set_or hx with rfl | hx
  · exact h0
  · exact h x hx
theorem rep_len (n : Nat) : (⟨(Lib.repeatL [121] n).toArray⟩ : ByteArray).size = n := by
  show (Lib.repeatL [121] n).toArray.size = n
  induction n with
  | zero => rfl
  | succ n ih => simp only [Lib.repeatL, List.size_toArray, List.length_append] at ih ⊢; simp; omega
theorem rep_size (n : Nat) (h : n ≤ 1000) : (⟨(Lib.repeatL [121] n).toArray⟩ : ByteArray).size ≤ 1000 := by rw [rep_len]; exact h
theorem rep_any (n : Nat) (V : World) (h : n ≤ 1000) : Calls Tryz.prog 6 #[.string ⟨#[121]⟩, .int .i64 (n : Nat)] V fun e w' => e = .returned (.string ⟨(Lib.repeatL [121] n).toArray⟩) ∧ Below V.heap.size V w' :=
  Tryz.strings_Repeat ⟨#[121]⟩ n V (by omega) (by show 1 * n ≤ _; omega)
theorem Some0.name {w : World} {B b : Nat} {F : List R} {P : List PV} (h : Some0 w B b F P) (i : Nat) (hi : i < 2) : w.cell? ⟨b + 3, i * 2, none⟩ = some (.string (gp P i).1) ∧ w.cell? ⟨b + 3, i * 2 + 1, none⟩ = some (.slice (gp P i).2.1 (gp P i).2.2.2.length (gp P i).2.2.1) ∧ ∀ j, w.frozen? ⟨b + 3, j, none⟩ = false := by
  have h1 := ownP_cellN h.po h.pl.symm i (by omega)
  have h2 : w.ownsRow B 37 2 (.slice (some ⟨b + 3, 0, none⟩) 2 2) 2 (P.flatMap encP) := by have h3 := h.po; unfold OwnP at h3; rw [h.pl] at h3; exact h3
  exact ⟨h1.1, h1.2, fun j => h2.frozenAt j⟩
theorem right_row {V : World} {B b c n : Nat} {q : Option Addr} {r : Bool} (h : Some0 V B b F0 (PN b q c (srowF 0 n))) (hn : n ≤ 5000) (hr : decide (n ≤ 2000) = r) :
    Calls Tryz.prog 7 #[.agg #[.slice (some ⟨b, 0, none⟩) 4 4, .slice (some ⟨b + 3, 0, none⟩) 2 2]] V fun e w' => e = .returned (.bool r) ∧ Below V.heap.size V w' := by
  refine (fright_any (some ⟨b, 0, none⟩) (some ⟨b + 3, 0, none⟩) 4 2 4 2 F0 (PN b q c (srowF 0 n)) V ⟨rfl, h.slf, by decide, rfl, h.slp, by decide, fun x hx => ?_⟩).mono ?_
  · simp only [PN, List.mem_cons, List.not_mem_nil, or_false] at hx
    rcases hx with rfl | rfl
    · show 1 ≤ _; omega
    · show (srowF 0 n).length ≤ _; rw [srowF_len]; omega
  · rintro e w' ⟨t, rfl, ht, hb⟩
    rw [trN b q c n hn] at ht
    have : t = r := by
      rw [← hr]
      cases t
      · exact (decide_eq_false (fun e => by have := ht.2 e; cases this)).symm
      · exact (decide_eq_true (ht.1 rfl)).symm
    rw [this]
    exact ⟨rfl, hb⟩
theorem Some0.frz {w V : World} {B b : Nat} {F : List R} {P : List PV} (h : Some0 w B b F P) {row : Option Nat} (hg : w.grownBy V row) (hne : some (b + 3) ≠ row) (j : Nat) : V.frozen? ⟨b + 3, j, none⟩ = false := by
  have h2 : w.ownsRow B 37 2 (.slice (some ⟨b + 3, 0, none⟩) 2 2) 2 (P.flatMap encP) := by have h3 := h.po; unfold OwnP at h3; rw [h.pl] at h3; exact h3
  exact (World.ownsRow.kept h2 hg (.inr hne)).frozenAt j
theorem Some0.setN {w : World} {B b c n : Nat} {q : Option Addr} (h : Some0 w B b F0 (PN b q c (srowF 0 n))) : OwnR w B (.slice q n c) (srowF 0 n) := by
  have := h.ps (⟨#[76, 117]⟩, q, c, srowF 0 n) (by simp [PN])
  rw [show ((⟨#[76, 117]⟩, q, c, srowF 0 n) : PV).2.2.2.length = n from srowF_len n 0] at this
  exact this
theorem tells_row {w1 V : World} {B b bn z n c : Nat} {q : Option Addr} {F F' : List R} {P : List PV} (hc : Ctx w1 bn V) (h : Some0 V B b F P) (hz : ∀ x ∈ P, x.1.size ≤ 9223372036854775807 ∧ x.2.2.2.length ≤ 9223372036854775807) (ho : OwnF V z (.slice q n c) F') (hn : n ≤ 1000) (cc : Int) (zs : ByteArray) (hzs : zs.size ≤ 1000) :
    Calls Tryz.prog 5 #[.agg #[.slice q n c, .slice (some ⟨b + 3, 0, none⟩) 2 2], .int .i64 cc, .string zs, .slice (some ⟨bn + 3, 0, none⟩) 2 2] V fun e w' => e = .returned (.bool true) ∧ Below V.heap.size V w' := by
  obtain ⟨p', c', e1, _, _, h0, hs, _⟩ := ownF_form ho
  simp only [Value.slice.injEq] at e1
  obtain ⟨rfl, rfl, rfl⟩ := e1
  exact foldTells_true q _ _ c 2 2 F'.length 2 2 F' P (setL (bn + 1)) cc zs V rfl hs (by omega) h0 h.pl.symm h.slp (by decide) hz (fun i hi h0 => (ownR_sl (h.ps (gp P i) (by rw [gp_get (by have := h.pl; omega)]; exact List.getElem_mem _))).2 h0) rfl hc.s0 (by decide) (fun i hi => by
    match i, hi with
    | 0, _ => show 1 ≤ 9223372036854775807; omega
    | 1, _ => show 1 ≤ 9223372036854775807; omega) (fun i hi h0 => by
    match i, hi, h0 with
    | 0, _, h0 => cases h0
    | 1, _, h0 => cases h0) (by omega)
end Go.Proofs.YtglgfpapackcdaaGreat
