/- The walks of nat's small calls over rows of digits: right, row, along. What each call tells. -/
import Derived.Test.YtcahnkocfbcchaaGreatDoorWa
import Derived.OneCell
import Derived.Laws.OwnMore
import Derived.Deep.AppendLies
import Derived.Lib.SmallJoins
import Derived.Maps.AppendAt
import Derived.Deep.Onto
import Derived.Deep.LoopGhost

namespace Go.Proofs.YtcahnkocfbcchaaGreatDoor
open Go.RowKit Tnd

theorem ret_slice {p : Option Addr} {a b c : Nat} (h : a = b) : Ending.returned (.slice p a c) = Ending.returned (.slice p b c) := by rw [h]

theorem right_any (p : Option Addr) (l : List Nat) (c : Nat) (w : World) (hs : Sl w .u32 p l) (hlc : l.length ≤ c) (hc : c ≤ 9223372036854775807) (hp : p = none → c = 0) :
    Calls Tryz.prog 65 #[.slice p l.length c] w fun e w' =>
      e = .returned (.slice p (tlen l) c) ∧ w = w' := by
  rcases p with _ | pa
  · have hl : l = [] := by
      rcases hs with h | ⟨b, off, h, _⟩
      · exact h
      · cases h
    subst hl
    have e0 := hp rfl
    subst e0
    clear hs hp hlc hc
    go_enter Tryz.func65, Tryz.ntmps65
    go_wp2
    go_loop [3] (fun i => i = .int .i64 0) (fun _ => 0)
    case atStart => rfl
    case round =>
      subst hrel
      go_wp2
      go_ret
      exact ⟨rfl, rfl⟩
  · have hcell : ∀ i, i < l.length → ∃ b off, pa = ⟨b, off, none⟩ ∧ w.cell? ⟨b, off + i, none⟩ = some (.int .u32 (gd l i : Nat)) := by
      intro i hi
      rcases hs with h | ⟨b, off, h, hh⟩
      · subst h; simp at hi
      · exact ⟨b, off, by simpa using h, hh i hi⟩
    clear hp
    have HS := Lib.hid hs
    clear hs
    go_enter Tryz.func65, Tryz.ntmps65
    go_wp2
    go_loop [3] (fun i => ∃ k : Nat, k ≤ l.length ∧ tlen l = tlen (l.take k) ∧ i = .int .i64 k) (fun i => (intOf i).toNat)
    case atStart => exact ⟨l.length, Nat.le_refl _, by rw [List.take_length], rfl⟩
    case round =>
      obtain ⟨k, hk, ht, rfl⟩ := hrel
      have HT := Lib.hid ht
      clear ht
      cases k with
      | zero =>
        clear hcell
        go_wp2
        go_ret
        exact ⟨ret_slice (by rw [HT.out]; rfl), rfl⟩
      | succ k =>
        obtain ⟨b, off, rfl, hcc⟩ := hcell k (by omega)
        clear hcell
        by_cases h0 : gd l k = 0
        · rw [h0] at hcc
          have H0 := Lib.hid h0
          clear h0
          go_wp2
          go_round
          case rel => exact ⟨k, by omega, by rw [HT.out, tlen_take_zero l k (by omega) H0.out], by go_num⟩
          case measure => simp [intOf]
        · have hb : ((((gd l k : Nat) : Int)) == 0) = false := by rw [beq_eq_false_iff_ne]; omega
          have H0 := Lib.hid h0
          clear h0
          go_wp2
          go_ret
          exact ⟨ret_slice (by rw [HT.out, tlen_take_stop l k (by omega) H0.out]), rfl⟩


/-- a row of numbers in a block of the call's own. -/
def Own (w : World) (B : Nat) (e : TypeId) (k : IntKind) (v : Value) (N : List Nat) : Prop :=
  w.ownsRow B e 1 v N.length (N.map fun d => Value.int k (d : Nat))
theorem own_nil (w : World) (B : Nat) (e : TypeId) (k : IntKind) : Own w B e k (.slice none 0 0) [] := World.ownsRow_nil w B e 1
theorem own_cell {w : World} {B : Nat} {e : TypeId} {k : IntKind} {g n cap : Nat} {N : List Nat} (h : Own w B e k (.slice (some ⟨g, 0, none⟩) n cap) N) (hn : N.length = n) (i : Nat) (hi : i < n) :
    w.cell? ⟨g, i, none⟩ = some (.int k (gd N i : Nat)) := by
  unfold Own at h
  rw [hn] at h
  rw [h.cellAt i (by omega)]
  simp [gd, List.getD_eq_getElem?_getD, List.getElem?_eq_getElem (show i < N.length by omega)]
theorem own_free {w : World} {B : Nat} {e : TypeId} {k : IntKind} {g n cap : Nat} {N : List Nat} (h : Own w B e k (.slice (some ⟨g, 0, none⟩) n cap) N) (hn : N.length = n) (i : Nat) :
    w.frozen? ⟨g, i, none⟩ = false := by
  unfold Own at h
  rw [hn] at h
  exact h.frozenAt i
theorem own_store {w : World} {B : Nat} {e : TypeId} {k : IntKind} {g n cap : Nat} {N : List Nat} (h : Own w B e k (.slice (some ⟨g, 0, none⟩) n cap) N) (hn : N.length = n) (i d : Nat) :
    Own (w.setCell ⟨g, i, none⟩ (.int k (d : Nat))) B e k (.slice (some ⟨g, 0, none⟩) n cap) (N.set i d) ∧ w.grownBy (w.setCell ⟨g, i, none⟩ (.int k (d : Nat))) (some g) := by
  unfold Own at h ⊢
  rw [hn] at h
  rw [List.length_set, hn, List.map_set]
  exact h.stored i _
theorem own_drewN {w : World} {B : Nat} {e : TypeId} {k : IntKind} {v : Value} {N : List Nat} (h : Own w B e k v N) (m : Nat) : Own (w.drewN m) B e k v N := h
theorem grown_drewN (w : World) (m : Nat) (r : Option Nat) : w.grownBy (w.drewN m) r := ⟨rfl, rfl, rfl, Nat.le_refl _, fun _ _ _ => rfl⟩
theorem own_kept {w w' : World} {B : Nat} {e : TypeId} {k : IntKind} {v : Value} {N : List Nat} {r : Option Nat} (h : Own w B e k v N) (hg : w.grownBy w' r) (hne : v.ownBlock = none ∨ v.ownBlock ≠ r) : Own w' B e k v N :=
  World.ownsRow.kept h hg hne

/-- what the steps of along are told to do: told digit and carry, and nothing but draws. -/
def StepOk (K : Nat) (caps : Array Value) (f : Nat → Nat → Nat → Nat × Nat) (I : World → Prop) (Ka : Nat) (C : Nat → Prop) : Prop :=
  ∀ (a b c : Nat) (bi : Int) (w : World), I w → a < Ka → bi = (b : Nat) → b < 4294967296 → C c →
    C (f a b c).2 ∧ Calls Tryz.prog K (#[.int .u32 (a : Nat), .int .u32 bi, .int .u32 (c : Nat)] ++ caps) w fun e w' =>
      e = .returned (.tuple #[.int .u32 ((f a b c).1 : Nat), .int .u32 ((f a b c).2 : Nat)]) ∧ ∃ n, w' = w.drewN n

def AlongPost (g : Nat) (cap : Nat) (E : TypeId) (N ys : List Nat) (o m c1 : Nat) (f : Nat → Nat → Nat → Nat × Nat) (w : World) (e : Ending) (w' : World) : Prop :=
  e = .returned (.int .u32 ((alongF f ((N.drop o).take m) ys c1).2 : Nat)) ∧ w.grownBy w' (some g) ∧
    Own w' g E .u32 (.slice (some ⟨g, 0, none⟩) N.length cap) (N.take o ++ (alongF f ((N.drop o).take m) ys c1).1 ++ N.drop (o + m))

theorem along_any (K : Nat) (caps : Array Value) (hcall : ∀ args w, (callFunc K args).run Tryz.prog w = .ok (.enter K args) w)
    (f : Nat → Nat → Nat → Nat × Nat) (I : World → Prop) (Ka : Nat) (C : Nat → Prop) (g : Nat) (hI : ∀ w w', I w → w.grownBy w' (some g) → I w') (hstep : StepOk K caps f I Ka C)
    (o m c c1 : Nat) (y : Option Addr) (ys : List Nat) (N : List Nat) (cap : Nat) (cy : Nat) (w : World)
    (hown : Own w g 46 .u32 (.slice (some ⟨g, 0, none⟩) N.length cap) N) (hom : o + m ≤ N.length) (hIw : I w) (hC : C c1)
    (hN : Digs Ka ((N.drop o).take m)) (hKa : 1 ≤ Ka) (hys : Digs 4294967296 ys)
    (hy : ys = [] ∨ ∃ b off, y = some ⟨b, off, none⟩ ∧ b ≠ g ∧ ∀ i, i < ys.length → w.cell? ⟨b, off + i, none⟩ = some (.int .u32 (gd ys i : Nat)))
    (hm : N.length ≤ 1000000000000000) (hml : ys.length ≤ 1000000000000000) :
    Calls Tryz.prog 63 #[.slice (some ⟨g, o, none⟩) m c, .slice y ys.length cy, .int .u32 (c1 : Nat), .func (.func K) #[] caps] w
      (AlongPost g cap 46 N ys o m c1 f w) := by
  have Hown := Lib.hid hown
  have HI := Lib.hid hI
  have HS := Lib.hid hstep
  have HIw := Lib.hid hIw
  have HC := Lib.hid hC
  have HN := Lib.hid hN
  have Hys := Lib.hid hys
  have Hy := Lib.hid hy
  clear hown hI hstep hIw hC hN hys hy
  go_enter Tryz.func63, Tryz.ntmps63
  go_wp2
  go_loopw [2, 14] (fun cv i wr => ∃ (k c : Nat) (N' : List Nat), k ≤ m ∧ Hid (C c) ∧ cv = .int .u32 c ∧ i = .int .i64 k ∧ Hid (AlongInv f N ys o m c1 k c N') ∧ Hid (w.grownBy wr (some g)) ∧ Hid (Own wr g 46 .u32 (.slice (some ⟨g, 0, none⟩) N.length cap) N')) (fun _ i _ => m - (intOf i).toNat)
  case atStart => exact ⟨0, c1, N, by omega, HC, rfl, rfl, AlongInv.start f N ys o m c1, World.grownBy.refl _ _, Hown.out⟩
  case round =>
    obtain ⟨k, c, N', hk, HC, rfl, rfl, HA, HG, HO⟩ := hrel
    rename World => wr
    have hl' : N'.length = N.length := HA.out.length (by omega)
    have Hl := Lib.hid hl'
    clear hl'
    by_cases hk1 : k < m
    · have hcell : wr.cell? ⟨g, o + k, none⟩ = some (.int .u32 (gd ((N.drop o).take m) k : Nat)) := by
        rw [← HA.out.at hk1 hom]; exact own_cell HO.out Hl.out (o + k) (by omega)
      have hfr : wr.frozen? ⟨g, o + k, none⟩ = false := own_free HO.out Hl.out (o + k)
      have hs := HS.out (gd ((N.drop o).take m) k) (gd ys k) c
      have hax : gd ((N.drop o).take m) k < Ka := gd_lt HN.out hKa k
      have hbx : gd ys k < 4294967296 := gd_lt Hys.out (by omega) k
      have hst := HA.out.step hk1 hom
      generalize gd ((N.drop o).take m) k = x at *
      generalize hgb : gd ys k = b at *
      have HB := Lib.hid hgb
      have HS1 := Lib.hid hs
      have HST := Lib.hid hst
      clear hgb hs hst
      by_cases hyk : k < ys.length
      · obtain ⟨yb, yo, rfl, hyc⟩ : ∃ yb yo, y = some ⟨yb, yo, none⟩ ∧ wr.cell? ⟨yb, yo + k, none⟩ = some (.int .u32 (b : Nat)) := by
          rcases Hy.out with h | ⟨yb, yo, h1, h2, h3⟩
          · subst h; simp at hyk
          · refine ⟨yb, yo, h1, ?_⟩
            rw [← HB.out]
            exact HG.out.cell (h3 k hyk) (by simpa using h2)
        go_wp2_with fail
        obtain ⟨hc2, hcalls⟩ := HS1.out (b : Nat) wr (HI.out _ _ HIw.out HG.out) hax rfl hbx HC.out
        have HC2 := Lib.hid hc2
        clear hc2
        refine hcalls.mono ?_
        rintro e w' ⟨rfl, n, rfl⟩
        go_wp2
        go_roundw
        case rel => exact ⟨k + 1, (f x b c).2, N'.set (o + k) (f x b c).1, by omega, HC2, rfl, by go_num, HST.out, (HG.out.trans (grown_drewN wr n _)).trans (own_store (own_drewN HO.out n) Hl.out (o + k) (f x b c).1).2, (own_store (own_drewN HO.out n) Hl.out (o + k) (f x b c).1).1⟩
        case measure => simp [intOf]; omega
      · have hb0 : b = 0 := by rw [← HB.out]; exact getD_off (by omega)
        subst hb0
        clear HB
        go_wp2_with fail
        obtain ⟨hc2, hcalls⟩ := HS1.out 0 wr (HI.out _ _ HIw.out HG.out) hax rfl hbx HC.out
        have HC2 := Lib.hid hc2
        clear hc2
        refine hcalls.mono ?_
        rintro e w' ⟨rfl, n, rfl⟩
        go_wp2
        go_roundw
        case rel => exact ⟨k + 1, (f x 0 c).2, N'.set (o + k) (f x 0 c).1, by omega, HC2, rfl, by go_num, HST.out, (HG.out.trans (grown_drewN wr n _)).trans (own_store (own_drewN HO.out n) Hl.out (o + k) (f x 0 c).1).2, (own_store (own_drewN HO.out n) Hl.out (o + k) (f x 0 c).1).1⟩
        case measure => simp [intOf]; omega
    · obtain rfl : k = m := by omega
      have hd := HA.out.done
      have HD := Lib.hid hd
      clear hd
      go_wp2
      go_ret
      refine ⟨?_, HG.out, ?_⟩
      · rw [← HD.out.2]; rfl
      · rw [← HD.out.1, ← Hl.out]
        have h := HO.out
        rw [← Hl.out] at h
        exact h

theorem along_nil (K : Nat) (caps : Array Value) (ci : Int) (y : Value) (w : World) :
    Calls Tryz.prog 63 #[.slice none 0 0, y, .int .u32 ci, .func (.func K) #[] caps] w fun e w' => e = .returned (.int .u32 ci) ∧ w = w' := by
  go_enter Tryz.func63, Tryz.ntmps63
  go_wp2
  go_loop [2, 14] (fun cv i => cv = .int .u32 ci ∧ i = .int .i64 0) (fun _ _ => 0)
  case atStart => exact ⟨rfl, rfl⟩
  case round =>
    obtain ⟨rfl, rfl⟩ := hrel
    go_wp2
    go_ret
    exact ⟨rfl, rfl⟩

end Go.Proofs.YtcahnkocfbcchaaGreatDoor
