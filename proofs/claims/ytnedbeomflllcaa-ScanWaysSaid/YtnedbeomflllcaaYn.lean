/- The walks of Clone, and of a scan in memory of its own: object, New. -/
import Derived.Test.YtnedbeomflllcaaYm
import Derived.WalkLawsBesides
import Derived.Deep.RegionHeld3
import Derived.LaidEqlPtr
namespace Go.Proofs.Ytnedbeomflllcaa
open Go.RowKit Tnd

/-- what a copy of a row leaves. -/
def ClonePost (l : List Int) (w : World) (e : Ending) (w' : World) : Prop :=
  ∃ q c, e = .returned (.slice q l.length c) ∧ OwnI w' w.heap.size (.slice q l.length c) l ∧ Below w.heap.size w w'
theorem clone_nil (w : World) : Calls Try.prog 23 #[.slice none 0 0] w (ClonePost [] w) := by
  have heq : ∀ (W : World) (a : Option Addr) (n c n' c' : Nat), (binOp .eql 22 (.slice a n c) (.slice none n' c')).run Try.prog W = .ok (.bool a.isNone) W := fun W a n c n' c' => Lib.run_eql_slice_nil W _ _ a n c n' c' Try.underlying22
  go_enter Try.func23, Try.ntmps23
  go_wp2
  go_ret
  exact ⟨none, 0, rfl, ownI_nil _ _, Below.refl _ _⟩
theorem own_empty (w : World) : OwnI (w.alloc (.cells #[] 3)) w.heap.size (.slice (some ⟨w.heap.size, 0, none⟩) 0 0) [] :=
  ⟨rfl, .inr ⟨w.heap.size, 0, #[], rfl, Nat.le_refl _, (MapKept.heap_alloc w _).1, Nat.le_refl _, by decide, rfl, rfl⟩⟩
set_option maxHeartbeats 800000 in
theorem clone_some (a : Addr) (l : List Int) (c : Nat) (w : World) (hs : SlI w (some a) l) (hl : l.length ≤ 1000000) :
    Calls Try.prog 23 #[.slice (some a) l.length c] w (ClonePost l w) := by
  obtain ⟨v, w2, h1, h2, h3⟩ := run_joinI (w := w.alloc (.cells #[] 3)) (cq := c) 22 (own_empty w) (hs.below (bl_alloc w _)) (by simp) (by simp; omega) (bl_alloc w (.cells #[] 3)).size
  rw [List.nil_append] at h2
  obtain ⟨q, d, rfl, _⟩ := ownI_form h2
  have hb : Below w.heap.size w w2 := (bl_alloc w (.cells #[] 3)).grown h3 (bl_alloc w (.cells #[] 3)).size (fun k hk => by cases hk; exact Nat.le_refl _)
  have H1 := Lib.hid h1
  have H2 := Lib.hid h2
  have HB := Lib.hid hb
  obtain ⟨n, hn⟩ : ∃ n, n = l.length := ⟨_, rfl⟩
  have HN := Lib.hid hn
  rw [← hn] at H1 ⊢
  clear h1 h2 h3 hs hl hb hn
  have heq : ∀ (W : World) (a : Option Addr) (n c n' c' : Nat), (binOp .eql 22 (.slice a n c) (.slice none n' c')).run Try.prog W = .ok (.bool a.isNone) W := fun W a n c n' c' => Lib.run_eql_slice_nil W _ _ a n c n' c' Try.underlying22
  go_enter Try.func23, Try.ntmps23
  go_wp2_with (at_builtin; refine wpList_append_run (by rfl) _ _ 22 rfl _ _ _ rfl rfl H1.out ?_)
  go_ret
  exact ⟨q, d, by rw [← HN.out]; rfl, H2.out, HB.out⟩
theorem clone_any (p : Option Addr) (l : List Int) (c : Nat) (w : World) (hs : SlI w p l) (hp : p = none → c = 0) (hl : l.length ≤ 1000000) :
    Calls Try.prog 23 #[.slice p l.length c] w (ClonePost l w) := by
  cases p with
  | some a => exact clone_some a l c w hs hl
  | none =>
    have := hp rfl
    subst this
    rcases hs with h | ⟨b, off, h, _⟩
    · subst h; exact clone_nil w
    · cases h

/-- a scan: its numbers, its place, and itself. -/
def Sc (w : World) (B b : Nat) (l : List Int) (k : Nat) : Prop := Cu w B b 43 [.pointer (some ⟨b, 0, none⟩)] l k
def ObjPost (l : List Int) (k : Nat) (w : World) (e : Ending) (w' : World) : Prop :=
  ∃ b, e = .returned (.pointer (some ⟨b, 0, none⟩)) ∧ Sc w' w.heap.size b l k ∧ Below w.heap.size w w'

theorem objS_below {a : Nat} {w W W' : World} {v0 v1 : Value} (h : W.cell? ⟨a, 0, none⟩ = some v0 ∧ W.cell? ⟨a, 1, none⟩ = some v1 ∧ Hid (Below w.heap.size w W)) (hb : Below W.heap.size W W') : W'.cell? ⟨a, 0, none⟩ = some v0 ∧ W'.cell? ⟨a, 1, none⟩ = some v1 ∧ Hid (Below w.heap.size w W') :=
  ⟨by rw [hb.cell (World.block_lt_of_cell? W _ h.1)]; exact h.1, by rw [hb.cell (World.block_lt_of_cell? W _ h.2.1)]; exact h.2.1, bl_trans h.2.2.out hb⟩
set_option maxHeartbeats 1600000 in
theorem object_any (p : Option Addr) (l : List Int) (c k : Nat) (w : World) (hs : SlI w p l) (hp : p = none → c = 0) (hl : l.length ≤ 1000000) (hk : k ≤ l.length) :
    Calls Try.prog 17 #[.agg #[.slice p l.length c, .int .i64 (k : Nat)]] w (ObjPost l k w) := by
  have HCL : Hid (∀ w1, Below w.heap.size w w1 → Calls Try.prog 23 #[.slice p l.length c] w1 (ClonePost l w1)) := fun w1 h1 => clone_any p l c w1 (hs.below h1) hp hl
  have HL := Lib.hid hl
  have HK := Lib.hid hk
  obtain ⟨n, hn⟩ : ∃ n, n = l.length := ⟨_, rfl⟩
  have HN := Lib.hid hn
  unfold ClonePost at HCL
  rw [← hn] at HCL ⊢
  have hkI : (k : Int) ≤ 1000000 := by omega
  clear hn hs hl hp hk
  go_enter Try.func17, Try.ntmps17
  go_wp2
  have hS0 : (w.alloc (.cells #[.slice p n c, .int .i64 (k : Nat)] 41)).cell? ⟨w.heap.size, 0, none⟩ = some (.slice p n c) ∧ (w.alloc (.cells #[.slice p n c, .int .i64 (k : Nat)] 41)).cell? ⟨w.heap.size, 1, none⟩ = some (.int .i64 (k : Nat)) ∧ Hid (Below w.heap.size w (w.alloc (.cells #[.slice p n c, .int .i64 (k : Nat)] 41))) := ⟨two_cell0 (MapKept.heap_alloc w _).1, two_cell1 (MapKept.heap_alloc w _).1, bl_alloc w _⟩
  go_region_held3 (fun W => W.cell? ⟨w.heap.size, 0, none⟩ = some (.slice p n c) ∧ W.cell? ⟨w.heap.size, 1, none⟩ = some (.int .i64 (k : Nat)) ∧ Hid (Below w.heap.size w W)) (first | exact objS_below hS0 (bl_drew _) | assumption | exact objS_below (objS_below hS0 (bl_drew _)) hb | exact objS_below (objS_below (objS_below hS0 (bl_drew _)) hb) (bl_alloc _ _)) (first | (go_at_call 23; (with_reducible refine (HCL.out _ (Hid.out (by exact (objS_below hS0 (bl_drew _)).2.2))).mono ?_); rintro e w1 ⟨q, d, rfl, ho, hb⟩))
  have HB1 : Hid (Below w.heap.size w w1) := bl_trans (bl_alloc w _) (bl_trans (bl_drew _) hb)
  have HO1 : Hid (OwnI w1 w.heap.size (.slice q n d) l) := World.ownsRow.mono ho (by simp)
  clear ho hb hS0
  rename_i hHeld
  clear hHeld
  go_wp2
  go_ret
  refine ⟨w1.heap.size, rfl, ⟨q, d, ?_, ?_, by decide, HK.out, HL.out, HB1.out.size⟩, HB1.out.alloc HB1.out.size _⟩
  · rw [← HN.out]; exact (MapKept.heap_alloc w1 _).1
  · rw [← HN.out]; exact ownI_below HO1.out (bl_alloc _ _)
set_option maxHeartbeats 800000 in
theorem new_any (p : Option Addr) (l : List Int) (c : Nat) (w : World) (hs : SlI w p l) (hp : p = none → c = 0) (hl : l.length ≤ 1000000) :
    Calls Try.prog 9 #[.slice p l.length c] w (ObjPost l 0 w) := by
  have HO : Hid (Calls Try.prog 17 #[.agg #[.slice p l.length c, .int .i64 0]] w (ObjPost l 0 w)) := object_any p l c 0 w hs hp hl (Nat.zero_le _)
  obtain ⟨n, hn⟩ : ∃ n, n = l.length := ⟨_, rfl⟩
  rw [← hn] at HO ⊢
  clear hs hp hl hn
  go_enter Try.func9, Try.ntmps9
  go_wp2_with fail
  refine HO.out.mono ?_
  rintro e w1 ⟨b, rfl, h1, h2⟩
  go_wp2
  go_ret
  exact ⟨b, rfl, h1, h2⟩

theorem Sc.self {w : World} {B b : Nat} {l : List Int} {k : Nat} (h : Sc w B b l k) : w.cell? ⟨b, 2, none⟩ = some (.pointer (some ⟨b, 0, none⟩)) := by
  obtain ⟨p, c, h1, _⟩ := h
  simp [World.cell?, h1]
theorem info_scan : ∃ j, Try.prog.info? 43 = some j := Option.isSome_iff_exists.1 (by kernel_rfl)
theorem ptr_same (a : Addr) (w : World) : (binOp .eql 30 (.pointer (some a)) (.pointer (some a))).run Try.prog w = .ok (.bool true) w := by
  obtain ⟨j, hj⟩ := info_scan
  exact run_eql_ptr_same w a Try.underlying30 hj
theorem ptr_none (a : Addr) (w : World) : (binOp .eql 30 (.pointer none) (.pointer (some a))).run Try.prog w = .ok (.bool false) w := by
  have h : ∀ d : Nat, (Op.equalIn (d + 1) 30 (.pointer none) (.pointer (some a))).run Try.prog w = .ok false w := fun d => by
    simp [Op.equalIn, run_underlying Try.underlying30]
  simp only [binOp]
  simp [Op.equal, Op.maxDepth, h 9999]
theorem made_yes (B b : Nat) (l : List Int) (k : Nat) (w : World) (h : Sc w B b l k) : Calls Try.prog 18 #[.pointer (some ⟨b, 0, none⟩)] w fun e w' => e = .returned (.bool true) ∧ w' = w := by
  have hc := h.self
  have hq := ptr_same ⟨b, 0, none⟩ w
  clear h
  go_enter Try.func18, Try.ntmps18
  go_wp2
  go_ret
  exact ⟨rfl, rfl⟩
theorem made_nil (w : World) : Calls Try.prog 18 #[.pointer none] w fun e w' => e = .returned (.bool false) ∧ w' = w := by
  go_enter Try.func18, Try.ntmps18
  go_wp2
  go_ret
  exact ⟨rfl, rfl⟩
theorem made_no (b : Nat) (w : World) (hc : w.cell? ⟨b, 2, none⟩ = some (.pointer none)) : Calls Try.prog 18 #[.pointer (some ⟨b, 0, none⟩)] w fun e w' => e = .returned (.bool false) ∧ w' = w := by
  have hq := ptr_none ⟨b, 0, none⟩ w
  go_enter Try.func18, Try.ntmps18
  go_wp2
  go_ret
  exact ⟨rfl, rfl⟩
end Go.Proofs.Ytnedbeomflllcaa
