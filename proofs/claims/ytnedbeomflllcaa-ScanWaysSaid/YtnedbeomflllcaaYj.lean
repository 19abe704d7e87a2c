/- The walk of an escape: its first sign, the map's method value, what it reads; copied back. -/
import Derived.Test.YtnedbeomflllcaaYi
namespace Go.Proofs.Ytnedbeomflllcaa
open Go.RowKit Tnd

/-- what an escape's call leaves. -/
def CE (w : World) (B b : Nat) (T : TypeId) (R : List Value) (l : List Int) (o : Option (Int × Nat)) (k : Nat) (e : Ending) (w' : World) : Prop :=
  match o with
  | some x => CP w B b T R l (.tuple #[.int .i64 x.1, .bool true]) (k + x.2) e w'
  | none => CP w B b T R l (.tuple #[.int .i64 0, .bool false]) k e w'
theorem zero_func (w : World) : (zeroValue 32).run Try.prog w = .ok .nilFunc w := by kernel_rfl
theorem mk_get {w0 w : World} {b : Nat} {x : Int} (h : MK w0 w (escK b 15)) : (Instr.lookup 47 (.map (some w0.heap.size)) (.int .i64 x) true).run Try.prog w = .ok (match lookK (escK b 15) x with | some v => .tuple #[v, .bool true] | none => .tuple #[.nilFunc, .bool false]) w :=
  map_get h.1 (esc_apart b) Try.underlying47 Try.underlying3 (zero_func w)


set_option maxHeartbeats 1600000 in
theorem escape_end (B b : Nat) (T : TypeId) (R : List Value) (l : List Int) (k : Nat) (w : World) (h : Cu w B b T R l k) (hk : ¬ k < l.length) :
    Calls Try.prog 19 #[.pointer (some ⟨b, 0, none⟩)] w (CE w B b T R l none k) := by
  obtain ⟨p, c, hc0, hc1, hcopy, -⟩ := h.copy
  have HC := Lib.hid h
  have HCP := Lib.hid (hcopy _ rfl)
  have hx : hdR l k = 0 := by unfold hdR; rw [if_neg hk]
  have HN : Hid (∀ (nb : Nat) (w1 : World), Cu w1 B nb 41 [] l k → Calls Try.prog 20 #[.pointer (some ⟨nb, 0, none⟩)] w1 (CP w1 B nb 41 [] l (.tuple #[.int .i64 0, .bool false]) k)) := fun nb w1 h1 => by
    have := next_any B nb 41 [] l k w1 h1
    rw [hx, decide_eq_false hk, if_neg hk] at this
    exact this
  have HLK : Hid (∀ nb, lookK (escK nb 15) 0 = none) := fun nb => look_none nb (by decide) (by decide) (by decide) (by decide) (by decide)
  clear h hcopy hx hk
  go_enter Try.func19, Try.ntmps19
  go_wp2_with fail
  refine (HN.out _ _ HCP.out).mono ?_
  rintro e w1 ⟨rfl, hc, hg⟩
  have HC1 := Lib.hid hc
  have HG1 := Lib.hid hg
  have HS : Hid (b < w.heap.size) := HC.out.lt
  have HCb := Lib.hid ((HC.out.below (bl_alloc w _)).beside HCP.out (by have := HS.out; omega) HG1.out)
  have HGb := Lib.hid (grown_new (below_grown (bl_alloc w _) (some b)) HG1.out (Nat.le_refl _))
  clear hc hg
  go_wp2_with fail
  refine (escapes_any _ _).mono ?_
  rintro e w2 ⟨rfl, hmk⟩
  have hget := mk_get (x := 0) hmk
  rw [HLK.out] at hget
  have HB2 := Lib.hid hmk.2
  clear hmk
  go_wp2
  go_ret2
  refine ⟨rfl, HCb.out.below HB2.out, ?_⟩
  exact HGb.out.trans (below_grown HB2.out _)

set_option maxHeartbeats 1600000 in
theorem escape_no (B b : Nat) (T : TypeId) (R : List Value) (l : List Int) (k : Nat) (w : World) (h : Cu w B b T R l k) (hk : k < l.length) (hp : plainR (gi l k) = none) (h1 : gi l k ≠ 99) (h2 : gi l k ≠ 48) (h3 : gi l k ≠ 120) (h4 : gi l k ≠ 117) :
    Calls Try.prog 19 #[.pointer (some ⟨b, 0, none⟩)] w (CE w B b T R l none k) := by
  obtain ⟨p, c, hc0, hc1, hcopy, -⟩ := h.copy
  have HC := Lib.hid h
  have HCP := Lib.hid (hcopy _ rfl)
  have hx : hdR l k = gi l k := by unfold hdR; rw [if_pos hk]
  have HN : Hid (∀ (nb : Nat) (w1 : World), Cu w1 B nb 41 [] l k → Calls Try.prog 20 #[.pointer (some ⟨nb, 0, none⟩)] w1 (CP w1 B nb 41 [] l (.tuple #[.int .i64 (gi l k), .bool true]) (k + 1))) := fun nb w1 h1 => by
    have := next_any B nb 41 [] l k w1 h1
    rw [hx, decide_eq_true hk, if_pos hk] at this
    exact this
  have HLK : Hid (∀ nb, lookK (escK nb 15) (gi l k) = none) := fun nb => look_none nb hp h1 h2 h3 h4

  clear h hcopy hx hk
  generalize gi l k = x at HN HLK
  go_enter Try.func19, Try.ntmps19
  go_wp2_with fail
  refine (HN.out _ _ HCP.out).mono ?_
  rintro e w1 ⟨rfl, hc, hg⟩
  have HC1 := Lib.hid hc
  have HG1 := Lib.hid hg
  have HS : Hid (b < w.heap.size) := HC.out.lt
  have HCb := Lib.hid ((HC.out.below (bl_alloc w _)).beside HCP.out (by have := HS.out; omega) HG1.out)
  have HGb := Lib.hid (grown_new (below_grown (bl_alloc w _) (some b)) HG1.out (Nat.le_refl _))
  clear hc hg
  go_wp2_with fail
  refine (escapes_any _ _).mono ?_
  rintro e w2 ⟨rfl, hmk⟩
  have hget := mk_get (x := x) hmk
  rw [HLK.out] at hget
  have HB2 := Lib.hid hmk.2
  have HC2 := Lib.hid (HC1.out.below HB2.out)
  have HCb2 := Lib.hid (HCb.out.below HB2.out)
  have HG2 := Lib.hid (HGb.out.trans (below_grown HB2.out _))
  clear hmk
  go_wp2
  go_ret2
  exact ⟨rfl, HCb2.out, HG2.out⟩

set_option maxHeartbeats 1600000 in
theorem escape_plain (B b : Nat) (T : TypeId) (R : List Value) (l : List Int) (k : Nat) (w : World) (h : Cu w B b T R l k) (hk : k < l.length) (v : Int) (hp : plainR (gi l k) = some v) :
    Calls Try.prog 19 #[.pointer (some ⟨b, 0, none⟩)] w (CE w B b T R l (some (v, 1)) k) := by
  obtain ⟨p, c, hc0, hc1, hcopy, -⟩ := h.copy
  have HC := Lib.hid h
  have HCP := Lib.hid (hcopy _ rfl)
  have hx : hdR l k = gi l k := by unfold hdR; rw [if_pos hk]
  have HN : Hid (∀ (nb : Nat) (w1 : World), Cu w1 B nb 41 [] l k → Calls Try.prog 20 #[.pointer (some ⟨nb, 0, none⟩)] w1 (CP w1 B nb 41 [] l (.tuple #[.int .i64 (gi l k), .bool true]) (k + 1))) := fun nb w1 h1 => by
    have := next_any B nb 41 [] l k w1 h1
    rw [hx, decide_eq_true hk, if_pos hk] at this
    exact this
  have HLK : Hid (∀ nb, lookK (escK nb 15) (gi l k) = some (itsF v)) := fun nb => look_plain nb hp

  clear h hcopy hx hk
  generalize gi l k = x at HN HLK
  go_enter Try.func19, Try.ntmps19
  go_wp2_with fail
  refine (HN.out _ _ HCP.out).mono ?_
  rintro e w1 ⟨rfl, hc, hg⟩
  have HC1 := Lib.hid hc
  have HG1 := Lib.hid hg
  have HS : Hid (b < w.heap.size) := HC.out.lt
  have HCb := Lib.hid ((HC.out.below (bl_alloc w _)).beside HCP.out (by have := HS.out; omega) HG1.out)
  have HGb := Lib.hid (grown_new (below_grown (bl_alloc w _) (some b)) HG1.out (Nat.le_refl _))
  clear hc hg
  go_wp2_with fail
  refine (escapes_any _ _).mono ?_
  rintro e w2 ⟨rfl, hmk⟩
  have hget := mk_get (x := x) hmk
  rw [HLK.out] at hget
  have HB2 := Lib.hid hmk.2
  have HC2 := Lib.hid (HC1.out.below HB2.out)
  have HCb2 := Lib.hid (HCb.out.below HB2.out)
  have HG2 := Lib.hid (HGb.out.trans (below_grown HB2.out _))
  clear hmk
  unfold itsF at hget
  go_wp2_with fail
  refine (point_any v w2).mono ?_
  rintro e w3 ⟨rfl, rfl⟩
  have hc := HC2.out
  have hg : w3.grownBy w3 (some w.heap.size) := grown_drewN w3 0 _
  obtain ⟨p3, c3, hd0, hd1, -, hback⟩ := hc.copy
  have HB := Lib.hid hback
  have HC3 := Lib.hid hc
  have HCb3 := Lib.hid (HCb2.out.beside HC2.out (by have := HS.out; omega) hg)
  have HG3 := Lib.hid (grown_new HG2.out hg (Nat.le_refl _))
  have hf0 := HCb3.out.frz 0
  have hf1 := HCb3.out.frz 1
  obtain ⟨q, d, hb0, hb1, -, -⟩ := HCb3.out.copy
  clear hc hg hback
  go_wp2
  go_ret2
  refine ⟨rfl, ?_, ?_⟩
  · exact (HB.out b T R k HCb3.out _ (by omega)).at (by first | rfl | (simp only; omega) | omega)
  · exact (HG3.out.trans (grown_set w3 ⟨b, 0, none⟩ _)).trans (grown_set _ ⟨b, 1, none⟩ _)

set_option maxHeartbeats 1600000 in
theorem escape_control_no (B b : Nat) (T : TypeId) (R : List Value) (l : List Int) (k : Nat) (w : World) (h : Cu w B b T R l k) (hk : k < l.length) (hp : gi l k = 99) (ho : ctlR (l.drop (k + 1)) = none) :
    Calls Try.prog 19 #[.pointer (some ⟨b, 0, none⟩)] w (CE w B b T R l none k) := by
  obtain ⟨p, c, hc0, hc1, hcopy, -⟩ := h.copy
  have HC := Lib.hid h
  have HCP := Lib.hid (hcopy _ rfl)
  have hx : hdR l k = gi l k := by unfold hdR; rw [if_pos hk]
  have HN : Hid (∀ (nb : Nat) (w1 : World), Cu w1 B nb 41 [] l k → Calls Try.prog 20 #[.pointer (some ⟨nb, 0, none⟩)] w1 (CP w1 B nb 41 [] l (.tuple #[.int .i64 (gi l k), .bool true]) (k + 1))) := fun nb w1 h1 => by
    have := next_any B nb 41 [] l k w1 h1
    rw [hx, decide_eq_true hk, if_pos hk] at this
    exact this
  have HLK : Hid (∀ nb, lookK (escK nb 15) (gi l k) = some (metF 28 nb)) := fun nb => by rw [hp]; rfl
  have HR : Hid (∀ (nb : Nat) (w1 : World), Cu w1 B nb 41 [] l (k + 1) → Calls Try.prog 28 #[.pointer (some ⟨nb, 0, none⟩)] w1 (CO w1 B nb 41 [] l (none) (k + 1))) := fun nb w1 h1 => by
    rw [← ho]; exact control_any B nb 41 [] l (k + 1) w1 h1
  clear h hcopy hx hk
  generalize gi l k = x at HN HLK
  go_enter Try.func19, Try.ntmps19
  go_wp2_with fail
  refine (HN.out _ _ HCP.out).mono ?_
  rintro e w1 ⟨rfl, hc, hg⟩
  have HC1 := Lib.hid hc
  have HG1 := Lib.hid hg
  have HS : Hid (b < w.heap.size) := HC.out.lt
  have HCb := Lib.hid ((HC.out.below (bl_alloc w _)).beside HCP.out (by have := HS.out; omega) HG1.out)
  have HGb := Lib.hid (grown_new (below_grown (bl_alloc w _) (some b)) HG1.out (Nat.le_refl _))
  clear hc hg
  go_wp2_with fail
  refine (escapes_any _ _).mono ?_
  rintro e w2 ⟨rfl, hmk⟩
  have hget := mk_get (x := x) hmk
  rw [HLK.out] at hget
  have HB2 := Lib.hid hmk.2
  have HC2 := Lib.hid (HC1.out.below HB2.out)
  have HCb2 := Lib.hid (HCb.out.below HB2.out)
  have HG2 := Lib.hid (HGb.out.trans (below_grown HB2.out _))
  clear hmk
  unfold metF at hget
  go_wp2_with fail
  refine (HR.out _ _ HC2.out).mono ?_
  rintro e w3 ⟨k', rfl, hc, hg⟩
  have HC3 := Lib.hid (HCb2.out.beside HC2.out (by have := HS.out; omega) hg)
  have HG3 := Lib.hid (grown_new HG2.out hg (Nat.le_refl _))
  clear hc hg
  go_wp2
  go_ret2
  exact ⟨rfl, HC3.out, HG3.out⟩

set_option maxHeartbeats 1600000 in
theorem escape_control_yes (B b : Nat) (T : TypeId) (R : List Value) (l : List Int) (k : Nat) (w : World) (h : Cu w B b T R l k) (hk : k < l.length) (hp : gi l k = 99) (y : Int × Nat) (ho : ctlR (l.drop (k + 1)) = some y) :
    Calls Try.prog 19 #[.pointer (some ⟨b, 0, none⟩)] w (CE w B b T R l (some (y.1, y.2 + 1)) k) := by
  obtain ⟨p, c, hc0, hc1, hcopy, -⟩ := h.copy
  have HC := Lib.hid h
  have HCP := Lib.hid (hcopy _ rfl)
  have hx : hdR l k = gi l k := by unfold hdR; rw [if_pos hk]
  have HN : Hid (∀ (nb : Nat) (w1 : World), Cu w1 B nb 41 [] l k → Calls Try.prog 20 #[.pointer (some ⟨nb, 0, none⟩)] w1 (CP w1 B nb 41 [] l (.tuple #[.int .i64 (gi l k), .bool true]) (k + 1))) := fun nb w1 h1 => by
    have := next_any B nb 41 [] l k w1 h1
    rw [hx, decide_eq_true hk, if_pos hk] at this
    exact this
  have HLK : Hid (∀ nb, lookK (escK nb 15) (gi l k) = some (metF 28 nb)) := fun nb => by rw [hp]; rfl
  have HR : Hid (∀ (nb : Nat) (w1 : World), Cu w1 B nb 41 [] l (k + 1) → Calls Try.prog 28 #[.pointer (some ⟨nb, 0, none⟩)] w1 (CO w1 B nb 41 [] l (some y) (k + 1))) := fun nb w1 h1 => by
    rw [← ho]; exact control_any B nb 41 [] l (k + 1) w1 h1
  clear h hcopy hx hk
  generalize gi l k = x at HN HLK
  go_enter Try.func19, Try.ntmps19
  go_wp2_with fail
  refine (HN.out _ _ HCP.out).mono ?_
  rintro e w1 ⟨rfl, hc, hg⟩
  have HC1 := Lib.hid hc
  have HG1 := Lib.hid hg
  have HS : Hid (b < w.heap.size) := HC.out.lt
  have HCb := Lib.hid ((HC.out.below (bl_alloc w _)).beside HCP.out (by have := HS.out; omega) HG1.out)
  have HGb := Lib.hid (grown_new (below_grown (bl_alloc w _) (some b)) HG1.out (Nat.le_refl _))
  clear hc hg
  go_wp2_with fail
  refine (escapes_any _ _).mono ?_
  rintro e w2 ⟨rfl, hmk⟩
  have hget := mk_get (x := x) hmk
  rw [HLK.out] at hget
  have HB2 := Lib.hid hmk.2
  have HC2 := Lib.hid (HC1.out.below HB2.out)
  have HCb2 := Lib.hid (HCb.out.below HB2.out)
  have HG2 := Lib.hid (HGb.out.trans (below_grown HB2.out _))
  clear hmk
  unfold metF at hget
  go_wp2_with fail
  refine (HR.out _ _ HC2.out).mono ?_
  rintro e w3 ⟨rfl, hc, hg⟩
  obtain ⟨p3, c3, hd0, hd1, -, hback⟩ := hc.copy
  have HB := Lib.hid hback
  have HC3 := Lib.hid hc
  have HCb3 := Lib.hid (HCb2.out.beside HC2.out (by have := HS.out; omega) hg)
  have HG3 := Lib.hid (grown_new HG2.out hg (Nat.le_refl _))
  have hf0 := HCb3.out.frz 0
  have hf1 := HCb3.out.frz 1
  obtain ⟨q, d, hb0, hb1, -, -⟩ := HCb3.out.copy
  clear hc hg hback
  go_wp2
  go_ret2
  refine ⟨rfl, ?_, ?_⟩
  · exact (HB.out b T R k HCb3.out _ (by omega)).at (by first | rfl | (simp only; omega) | omega)
  · exact (HG3.out.trans (grown_set w3 ⟨b, 0, none⟩ _)).trans (grown_set _ ⟨b, 1, none⟩ _)

set_option maxHeartbeats 1600000 in
theorem escape_zero_no (B b : Nat) (T : TypeId) (R : List Value) (l : List Int) (k : Nat) (w : World) (h : Cu w B b T R l k) (hk : k < l.length) (hp : gi l k = 48) (ho : zerR (l.drop (k + 1)) = none) :
    Calls Try.prog 19 #[.pointer (some ⟨b, 0, none⟩)] w (CE w B b T R l none k) := by
  obtain ⟨p, c, hc0, hc1, hcopy, -⟩ := h.copy
  have HC := Lib.hid h
  have HCP := Lib.hid (hcopy _ rfl)
  have hx : hdR l k = gi l k := by unfold hdR; rw [if_pos hk]
  have HN : Hid (∀ (nb : Nat) (w1 : World), Cu w1 B nb 41 [] l k → Calls Try.prog 20 #[.pointer (some ⟨nb, 0, none⟩)] w1 (CP w1 B nb 41 [] l (.tuple #[.int .i64 (gi l k), .bool true]) (k + 1))) := fun nb w1 h1 => by
    have := next_any B nb 41 [] l k w1 h1
    rw [hx, decide_eq_true hk, if_pos hk] at this
    exact this
  have HLK : Hid (∀ nb, lookK (escK nb 15) (gi l k) = some (metF 29 nb)) := fun nb => by rw [hp]; rfl
  have HR : Hid (∀ (nb : Nat) (w1 : World), Cu w1 B nb 41 [] l (k + 1) → Calls Try.prog 29 #[.pointer (some ⟨nb, 0, none⟩)] w1 (CO w1 B nb 41 [] l (none) (k + 1))) := fun nb w1 h1 => by
    rw [← ho]; exact zero_any B nb 41 [] l (k + 1) w1 h1
  clear h hcopy hx hk
  generalize gi l k = x at HN HLK
  go_enter Try.func19, Try.ntmps19
  go_wp2_with fail
  refine (HN.out _ _ HCP.out).mono ?_
  rintro e w1 ⟨rfl, hc, hg⟩
  have HC1 := Lib.hid hc
  have HG1 := Lib.hid hg
  have HS : Hid (b < w.heap.size) := HC.out.lt
  have HCb := Lib.hid ((HC.out.below (bl_alloc w _)).beside HCP.out (by have := HS.out; omega) HG1.out)
  have HGb := Lib.hid (grown_new (below_grown (bl_alloc w _) (some b)) HG1.out (Nat.le_refl _))
  clear hc hg
  go_wp2_with fail
  refine (escapes_any _ _).mono ?_
  rintro e w2 ⟨rfl, hmk⟩
  have hget := mk_get (x := x) hmk
  rw [HLK.out] at hget
  have HB2 := Lib.hid hmk.2
  have HC2 := Lib.hid (HC1.out.below HB2.out)
  have HCb2 := Lib.hid (HCb.out.below HB2.out)
  have HG2 := Lib.hid (HGb.out.trans (below_grown HB2.out _))
  clear hmk
  unfold metF at hget
  go_wp2_with fail
  refine (HR.out _ _ HC2.out).mono ?_
  rintro e w3 ⟨k', rfl, hc, hg⟩
  have HC3 := Lib.hid (HCb2.out.beside HC2.out (by have := HS.out; omega) hg)
  have HG3 := Lib.hid (grown_new HG2.out hg (Nat.le_refl _))
  clear hc hg
  go_wp2
  go_ret2
  exact ⟨rfl, HC3.out, HG3.out⟩

set_option maxHeartbeats 1600000 in
theorem escape_zero_yes (B b : Nat) (T : TypeId) (R : List Value) (l : List Int) (k : Nat) (w : World) (h : Cu w B b T R l k) (hk : k < l.length) (hp : gi l k = 48) (y : Int × Nat) (ho : zerR (l.drop (k + 1)) = some y) :
    Calls Try.prog 19 #[.pointer (some ⟨b, 0, none⟩)] w (CE w B b T R l (some (y.1, y.2 + 1)) k) := by
  obtain ⟨p, c, hc0, hc1, hcopy, -⟩ := h.copy
  have HC := Lib.hid h
  have HCP := Lib.hid (hcopy _ rfl)
  have hx : hdR l k = gi l k := by unfold hdR; rw [if_pos hk]
  have HN : Hid (∀ (nb : Nat) (w1 : World), Cu w1 B nb 41 [] l k → Calls Try.prog 20 #[.pointer (some ⟨nb, 0, none⟩)] w1 (CP w1 B nb 41 [] l (.tuple #[.int .i64 (gi l k), .bool true]) (k + 1))) := fun nb w1 h1 => by
    have := next_any B nb 41 [] l k w1 h1
    rw [hx, decide_eq_true hk, if_pos hk] at this
    exact this
  have HLK : Hid (∀ nb, lookK (escK nb 15) (gi l k) = some (metF 29 nb)) := fun nb => by rw [hp]; rfl
  have HR : Hid (∀ (nb : Nat) (w1 : World), Cu w1 B nb 41 [] l (k + 1) → Calls Try.prog 29 #[.pointer (some ⟨nb, 0, none⟩)] w1 (CO w1 B nb 41 [] l (some y) (k + 1))) := fun nb w1 h1 => by
    rw [← ho]; exact zero_any B nb 41 [] l (k + 1) w1 h1
  clear h hcopy hx hk
  generalize gi l k = x at HN HLK
  go_enter Try.func19, Try.ntmps19
  go_wp2_with fail
  refine (HN.out _ _ HCP.out).mono ?_
  rintro e w1 ⟨rfl, hc, hg⟩
  have HC1 := Lib.hid hc
  have HG1 := Lib.hid hg
  have HS : Hid (b < w.heap.size) := HC.out.lt
  have HCb := Lib.hid ((HC.out.below (bl_alloc w _)).beside HCP.out (by have := HS.out; omega) HG1.out)
  have HGb := Lib.hid (grown_new (below_grown (bl_alloc w _) (some b)) HG1.out (Nat.le_refl _))
  clear hc hg
  go_wp2_with fail
  refine (escapes_any _ _).mono ?_
  rintro e w2 ⟨rfl, hmk⟩
  have hget := mk_get (x := x) hmk
  rw [HLK.out] at hget
  have HB2 := Lib.hid hmk.2
  have HC2 := Lib.hid (HC1.out.below HB2.out)
  have HCb2 := Lib.hid (HCb.out.below HB2.out)
  have HG2 := Lib.hid (HGb.out.trans (below_grown HB2.out _))
  clear hmk
  unfold metF at hget
  go_wp2_with fail
  refine (HR.out _ _ HC2.out).mono ?_
  rintro e w3 ⟨rfl, hc, hg⟩
  obtain ⟨p3, c3, hd0, hd1, -, hback⟩ := hc.copy
  have HB := Lib.hid hback
  have HC3 := Lib.hid hc
  have HCb3 := Lib.hid (HCb2.out.beside HC2.out (by have := HS.out; omega) hg)
  have HG3 := Lib.hid (grown_new HG2.out hg (Nat.le_refl _))
  have hf0 := HCb3.out.frz 0
  have hf1 := HCb3.out.frz 1
  obtain ⟨q, d, hb0, hb1, -, -⟩ := HCb3.out.copy
  clear hc hg hback
  go_wp2
  go_ret2
  refine ⟨rfl, ?_, ?_⟩
  · exact (HB.out b T R k HCb3.out _ (by omega)).at (by first | rfl | (simp only; omega) | omega)
  · exact (HG3.out.trans (grown_set w3 ⟨b, 0, none⟩ _)).trans (grown_set _ ⟨b, 1, none⟩ _)

set_option maxHeartbeats 1600000 in
theorem escape_short_no (B b : Nat) (T : TypeId) (R : List Value) (l : List Int) (k : Nat) (w : World) (h : Cu w B b T R l k) (hk : k < l.length) (hp : gi l k = 120) (ho : hexO 2 (l.drop (k + 1)) = none) :
    Calls Try.prog 19 #[.pointer (some ⟨b, 0, none⟩)] w (CE w B b T R l none k) := by
  obtain ⟨p, c, hc0, hc1, hcopy, -⟩ := h.copy
  have HC := Lib.hid h
  have HCP := Lib.hid (hcopy _ rfl)
  have hx : hdR l k = gi l k := by unfold hdR; rw [if_pos hk]
  have HN : Hid (∀ (nb : Nat) (w1 : World), Cu w1 B nb 41 [] l k → Calls Try.prog 20 #[.pointer (some ⟨nb, 0, none⟩)] w1 (CP w1 B nb 41 [] l (.tuple #[.int .i64 (gi l k), .bool true]) (k + 1))) := fun nb w1 h1 => by
    have := next_any B nb 41 [] l k w1 h1
    rw [hx, decide_eq_true hk, if_pos hk] at this
    exact this
  have HLK : Hid (∀ nb, lookK (escK nb 15) (gi l k) = some (metF 30 nb)) := fun nb => by rw [hp]; rfl
  have HR : Hid (∀ (nb : Nat) (w1 : World), Cu w1 B nb 41 [] l (k + 1) → Calls Try.prog 30 #[.pointer (some ⟨nb, 0, none⟩)] w1 (CO w1 B nb 41 [] l (none) (k + 1))) := fun nb w1 h1 => by
    rw [← ho]; exact short_any B nb 41 [] l (k + 1) w1 h1
  clear h hcopy hx hk
  generalize gi l k = x at HN HLK
  go_enter Try.func19, Try.ntmps19
  go_wp2_with fail
  refine (HN.out _ _ HCP.out).mono ?_
  rintro e w1 ⟨rfl, hc, hg⟩
  have HC1 := Lib.hid hc
  have HG1 := Lib.hid hg
  have HS : Hid (b < w.heap.size) := HC.out.lt
  have HCb := Lib.hid ((HC.out.below (bl_alloc w _)).beside HCP.out (by have := HS.out; omega) HG1.out)
  have HGb := Lib.hid (grown_new (below_grown (bl_alloc w _) (some b)) HG1.out (Nat.le_refl _))
  clear hc hg
  go_wp2_with fail
  refine (escapes_any _ _).mono ?_
  rintro e w2 ⟨rfl, hmk⟩
  have hget := mk_get (x := x) hmk
  rw [HLK.out] at hget
  have HB2 := Lib.hid hmk.2
  have HC2 := Lib.hid (HC1.out.below HB2.out)
  have HCb2 := Lib.hid (HCb.out.below HB2.out)
  have HG2 := Lib.hid (HGb.out.trans (below_grown HB2.out _))
  clear hmk
  unfold metF at hget
  go_wp2_with fail
  refine (HR.out _ _ HC2.out).mono ?_
  rintro e w3 ⟨k', rfl, hc, hg⟩
  have HC3 := Lib.hid (HCb2.out.beside HC2.out (by have := HS.out; omega) hg)
  have HG3 := Lib.hid (grown_new HG2.out hg (Nat.le_refl _))
  clear hc hg
  go_wp2
  go_ret2
  exact ⟨rfl, HC3.out, HG3.out⟩

set_option maxHeartbeats 1600000 in
theorem escape_short_yes (B b : Nat) (T : TypeId) (R : List Value) (l : List Int) (k : Nat) (w : World) (h : Cu w B b T R l k) (hk : k < l.length) (hp : gi l k = 120) (y : Int × Nat) (ho : hexO 2 (l.drop (k + 1)) = some y) :
    Calls Try.prog 19 #[.pointer (some ⟨b, 0, none⟩)] w (CE w B b T R l (some (y.1, y.2 + 1)) k) := by
  obtain ⟨p, c, hc0, hc1, hcopy, -⟩ := h.copy
  have HC := Lib.hid h
  have HCP := Lib.hid (hcopy _ rfl)
  have hx : hdR l k = gi l k := by unfold hdR; rw [if_pos hk]
  have HN : Hid (∀ (nb : Nat) (w1 : World), Cu w1 B nb 41 [] l k → Calls Try.prog 20 #[.pointer (some ⟨nb, 0, none⟩)] w1 (CP w1 B nb 41 [] l (.tuple #[.int .i64 (gi l k), .bool true]) (k + 1))) := fun nb w1 h1 => by
    have := next_any B nb 41 [] l k w1 h1
    rw [hx, decide_eq_true hk, if_pos hk] at this
    exact this
  have HLK : Hid (∀ nb, lookK (escK nb 15) (gi l k) = some (metF 30 nb)) := fun nb => by rw [hp]; rfl
  have HR : Hid (∀ (nb : Nat) (w1 : World), Cu w1 B nb 41 [] l (k + 1) → Calls Try.prog 30 #[.pointer (some ⟨nb, 0, none⟩)] w1 (CO w1 B nb 41 [] l (some y) (k + 1))) := fun nb w1 h1 => by
    rw [← ho]; exact short_any B nb 41 [] l (k + 1) w1 h1
  clear h hcopy hx hk
  generalize gi l k = x at HN HLK
  go_enter Try.func19, Try.ntmps19
  go_wp2_with fail
  refine (HN.out _ _ HCP.out).mono ?_
  rintro e w1 ⟨rfl, hc, hg⟩
  have HC1 := Lib.hid hc
  have HG1 := Lib.hid hg
  have HS : Hid (b < w.heap.size) := HC.out.lt
  have HCb := Lib.hid ((HC.out.below (bl_alloc w _)).beside HCP.out (by have := HS.out; omega) HG1.out)
  have HGb := Lib.hid (grown_new (below_grown (bl_alloc w _) (some b)) HG1.out (Nat.le_refl _))
  clear hc hg
  go_wp2_with fail
  refine (escapes_any _ _).mono ?_
  rintro e w2 ⟨rfl, hmk⟩
  have hget := mk_get (x := x) hmk
  rw [HLK.out] at hget
  have HB2 := Lib.hid hmk.2
  have HC2 := Lib.hid (HC1.out.below HB2.out)
  have HCb2 := Lib.hid (HCb.out.below HB2.out)
  have HG2 := Lib.hid (HGb.out.trans (below_grown HB2.out _))
  clear hmk
  unfold metF at hget
  go_wp2_with fail
  refine (HR.out _ _ HC2.out).mono ?_
  rintro e w3 ⟨rfl, hc, hg⟩
  obtain ⟨p3, c3, hd0, hd1, -, hback⟩ := hc.copy
  have HB := Lib.hid hback
  have HC3 := Lib.hid hc
  have HCb3 := Lib.hid (HCb2.out.beside HC2.out (by have := HS.out; omega) hg)
  have HG3 := Lib.hid (grown_new HG2.out hg (Nat.le_refl _))
  have hf0 := HCb3.out.frz 0
  have hf1 := HCb3.out.frz 1
  obtain ⟨q, d, hb0, hb1, -, -⟩ := HCb3.out.copy
  clear hc hg hback
  go_wp2
  go_ret2
  refine ⟨rfl, ?_, ?_⟩
  · exact (HB.out b T R k HCb3.out _ (by omega)).at (by first | rfl | (simp only; omega) | omega)
  · exact (HG3.out.trans (grown_set w3 ⟨b, 0, none⟩ _)).trans (grown_set _ ⟨b, 1, none⟩ _)

set_option maxHeartbeats 1600000 in
theorem escape_long_no (B b : Nat) (T : TypeId) (R : List Value) (l : List Int) (k : Nat) (w : World) (h : Cu w B b T R l k) (hk : k < l.length) (hp : gi l k = 117) (ho : lngR (l.drop (k + 1)) = none) :
    Calls Try.prog 19 #[.pointer (some ⟨b, 0, none⟩)] w (CE w B b T R l none k) := by
  obtain ⟨p, c, hc0, hc1, hcopy, -⟩ := h.copy
  have HC := Lib.hid h
  have HCP := Lib.hid (hcopy _ rfl)
  have hx : hdR l k = gi l k := by unfold hdR; rw [if_pos hk]
  have HN : Hid (∀ (nb : Nat) (w1 : World), Cu w1 B nb 41 [] l k → Calls Try.prog 20 #[.pointer (some ⟨nb, 0, none⟩)] w1 (CP w1 B nb 41 [] l (.tuple #[.int .i64 (gi l k), .bool true]) (k + 1))) := fun nb w1 h1 => by
    have := next_any B nb 41 [] l k w1 h1
    rw [hx, decide_eq_true hk, if_pos hk] at this
    exact this
  have HLK : Hid (∀ nb, lookK (escK nb 15) (gi l k) = some (metF 31 nb)) := fun nb => by rw [hp]; rfl
  have HR : Hid (∀ (nb : Nat) (w1 : World), Cu w1 B nb 41 [] l (k + 1) → Calls Try.prog 31 #[.pointer (some ⟨nb, 0, none⟩)] w1 (CO w1 B nb 41 [] l (none) (k + 1))) := fun nb w1 h1 => by
    rw [← ho]; exact long_any B nb 41 [] l (k + 1) w1 h1
  clear h hcopy hx hk
  generalize gi l k = x at HN HLK
  go_enter Try.func19, Try.ntmps19
  go_wp2_with fail
  refine (HN.out _ _ HCP.out).mono ?_
  rintro e w1 ⟨rfl, hc, hg⟩
  have HC1 := Lib.hid hc
  have HG1 := Lib.hid hg
  have HS : Hid (b < w.heap.size) := HC.out.lt
  have HCb := Lib.hid ((HC.out.below (bl_alloc w _)).beside HCP.out (by have := HS.out; omega) HG1.out)
  have HGb := Lib.hid (grown_new (below_grown (bl_alloc w _) (some b)) HG1.out (Nat.le_refl _))
  clear hc hg
  go_wp2_with fail
  refine (escapes_any _ _).mono ?_
  rintro e w2 ⟨rfl, hmk⟩
  have hget := mk_get (x := x) hmk
  rw [HLK.out] at hget
  have HB2 := Lib.hid hmk.2
  have HC2 := Lib.hid (HC1.out.below HB2.out)
  have HCb2 := Lib.hid (HCb.out.below HB2.out)
  have HG2 := Lib.hid (HGb.out.trans (below_grown HB2.out _))
  clear hmk
  unfold metF at hget
  go_wp2_with fail
  refine (HR.out _ _ HC2.out).mono ?_
  rintro e w3 ⟨k', rfl, hc, hg⟩
  have HC3 := Lib.hid (HCb2.out.beside HC2.out (by have := HS.out; omega) hg)
  have HG3 := Lib.hid (grown_new HG2.out hg (Nat.le_refl _))
  clear hc hg
  go_wp2
  go_ret2
  exact ⟨rfl, HC3.out, HG3.out⟩

set_option maxHeartbeats 1600000 in
theorem escape_long_yes (B b : Nat) (T : TypeId) (R : List Value) (l : List Int) (k : Nat) (w : World) (h : Cu w B b T R l k) (hk : k < l.length) (hp : gi l k = 117) (y : Int × Nat) (ho : lngR (l.drop (k + 1)) = some y) :
    Calls Try.prog 19 #[.pointer (some ⟨b, 0, none⟩)] w (CE w B b T R l (some (y.1, y.2 + 1)) k) := by
  obtain ⟨p, c, hc0, hc1, hcopy, -⟩ := h.copy
  have HC := Lib.hid h
  have HCP := Lib.hid (hcopy _ rfl)
  have hx : hdR l k = gi l k := by unfold hdR; rw [if_pos hk]
  have HN : Hid (∀ (nb : Nat) (w1 : World), Cu w1 B nb 41 [] l k → Calls Try.prog 20 #[.pointer (some ⟨nb, 0, none⟩)] w1 (CP w1 B nb 41 [] l (.tuple #[.int .i64 (gi l k), .bool true]) (k + 1))) := fun nb w1 h1 => by
    have := next_any B nb 41 [] l k w1 h1
    rw [hx, decide_eq_true hk, if_pos hk] at this
    exact this
  have HLK : Hid (∀ nb, lookK (escK nb 15) (gi l k) = some (metF 31 nb)) := fun nb => by rw [hp]; rfl
  have HR : Hid (∀ (nb : Nat) (w1 : World), Cu w1 B nb 41 [] l (k + 1) → Calls Try.prog 31 #[.pointer (some ⟨nb, 0, none⟩)] w1 (CO w1 B nb 41 [] l (some y) (k + 1))) := fun nb w1 h1 => by
    rw [← ho]; exact long_any B nb 41 [] l (k + 1) w1 h1
  clear h hcopy hx hk
  generalize gi l k = x at HN HLK
  go_enter Try.func19, Try.ntmps19
  go_wp2_with fail
  refine (HN.out _ _ HCP.out).mono ?_
  rintro e w1 ⟨rfl, hc, hg⟩
  have HC1 := Lib.hid hc
  have HG1 := Lib.hid hg
  have HS : Hid (b < w.heap.size) := HC.out.lt
  have HCb := Lib.hid ((HC.out.below (bl_alloc w _)).beside HCP.out (by have := HS.out; omega) HG1.out)
  have HGb := Lib.hid (grown_new (below_grown (bl_alloc w _) (some b)) HG1.out (Nat.le_refl _))
  clear hc hg
  go_wp2_with fail
  refine (escapes_any _ _).mono ?_
  rintro e w2 ⟨rfl, hmk⟩
  have hget := mk_get (x := x) hmk
  rw [HLK.out] at hget
  have HB2 := Lib.hid hmk.2
  have HC2 := Lib.hid (HC1.out.below HB2.out)
  have HCb2 := Lib.hid (HCb.out.below HB2.out)
  have HG2 := Lib.hid (HGb.out.trans (below_grown HB2.out _))
  clear hmk
  unfold metF at hget
  go_wp2_with fail
  refine (HR.out _ _ HC2.out).mono ?_
  rintro e w3 ⟨rfl, hc, hg⟩
  obtain ⟨p3, c3, hd0, hd1, -, hback⟩ := hc.copy
  have HB := Lib.hid hback
  have HC3 := Lib.hid hc
  have HCb3 := Lib.hid (HCb2.out.beside HC2.out (by have := HS.out; omega) hg)
  have HG3 := Lib.hid (grown_new HG2.out hg (Nat.le_refl _))
  have hf0 := HCb3.out.frz 0
  have hf1 := HCb3.out.frz 1
  obtain ⟨q, d, hb0, hb1, -, -⟩ := HCb3.out.copy
  clear hc hg hback
  go_wp2
  go_ret2
  refine ⟨rfl, ?_, ?_⟩
  · exact (HB.out b T R k HCb3.out _ (by omega)).at (by first | rfl | (simp only; omega) | omega)
  · exact (HG3.out.trans (grown_set w3 ⟨b, 0, none⟩ _)).trans (grown_set _ ⟨b, 1, none⟩ _)

end Go.Proofs.Ytnedbeomflllcaa
