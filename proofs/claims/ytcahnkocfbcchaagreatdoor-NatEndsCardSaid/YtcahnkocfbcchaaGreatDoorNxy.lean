/- NatTells: its own walk. -/
import Derived.Test.YtcahnkocfbcchaaGreatDoorNxu
import Derived.Test.YtcahnkocfbcchaaGreatDoorNxw
import Derived.Test.YtcahnkocfbcchaaGreatDoorNxj
import Derived.Test.YtcahnkocfbcchaaGreatDoorNxq

namespace Go.Proofs.YtcahnkocfbcchaaGreatDoor
open Go.RowKit Tnd

/-- two Nats that came in, in a row that a call lays. -/
theorem nats_two {w w1 : World} {p1 p2 : Option Addr} {c1 c2 : Nat} {l1 l2 : List Nat} {T : TypeId} (hb : Below w.heap.size w w1)
    (h1 : NatIn w w.heap.size (.agg #[.slice p1 l1.length c1]) l1) (h2 : NatIn w w.heap.size (.agg #[.slice p2 l2.length c2]) l2) :
    NatsIn (w1.alloc (.cells #[.slice p1 l1.length c1, .slice p2 l2.length c2] T)) (w1.alloc (.cells #[.slice p1 l1.length c1, .slice p2 l2.length c2] T)).heap.size (some ⟨w1.heap.size, 0, none⟩) [l1, l2] := by
  have hbb : Below w.heap.size w (w1.alloc (.cells #[.slice p1 l1.length c1, .slice p2 l2.length c2] T)) := hb.alloc hb.size _
  have hsz := hbb.size
  have hcell : ∀ i, (w1.alloc (.cells #[.slice p1 l1.length c1, .slice p2 l2.length c2] T)).cell? ⟨w1.heap.size, i, none⟩ = (#[Value.slice p1 l1.length c1, .slice p2 l2.length c2] : Array Value)[i]? := fun i => World.cell?_alloc_at _ _ _ _ rfl
  obtain ⟨q1, d1, f1, g1, k1⟩ := (h1.below hbb).up hsz
  obtain ⟨q2, d2, f2, g2, k2⟩ := (h2.below hbb).up hsz
  simp only [Value.agg.injEq, Array.mk.injEq, List.cons.injEq, Value.slice.injEq, and_true, true_and] at f1 f2
  obtain ⟨rfl, rfl⟩ := f1
  obtain ⟨rfl, rfl⟩ := f2
  refine .inr ⟨w1.heap.size, 0, rfl, by simp, fun i hi => ?_⟩
  rw [Nat.zero_add]
  match i, hi with
  | 0, _ => exact ⟨p1, c1, hcell 0, g1, k1⟩
  | 1, _ => exact ⟨p2, c2, hcell 1, g2, k2⟩
/-- one number of the call's own, in a list. -/
theorem nats_one {W : World} {b : Nat} {p1 : Option Addr} {c1 : Nat} {l1 : List Nat} (h0 : Bx W b 24 #[.slice p1 l1.length c1]) (i1 : NatIn W W.heap.size (.agg #[.slice p1 l1.length c1]) l1) : NatsIn W W.heap.size (some ⟨b, 0, none⟩) [l1] := by
  obtain ⟨q1, d1, f1, g1, k1⟩ := i1
  simp only [Value.agg.injEq, Array.mk.injEq, List.cons.injEq, Value.slice.injEq, and_true, true_and] at f1
  obtain ⟨rfl, rfl⟩ := f1
  refine .inr ⟨b, 0, rfl, h0.lt, fun i hi => ?_⟩
  match i, hi with
  | 0, _ => exact ⟨p1, c1, h0.cell rfl, g1, k1⟩
theorem add_one (V : World) (b : Nat) (p : Option Addr) (c n : Nat) (l : List Nat) (e : l.length = n) (h0 : Bx V b 24 #[.slice p n c]) (hin : NatIn V V.heap.size (.agg #[.slice p n c]) l) (hl : n ≤ 1000) (B : Nat) (hB : B ≤ V.heap.size) :
    Calls Tryz.prog 22 #[.slice (some ⟨b, 0, none⟩) 1 1] V (FP B (nv 4294967296 l) V) := by
  subst e
  have h := add_any (some ⟨b, 0, none⟩) 1 [l] V (nats_one h0 hin) (by simp) (by simp only [tot]; omega)
  rw [show sumv [l] = nv 4294967296 l by simp [sumv]] at h
  exact h.mono fun e w' h => FP.of h hB
theorem mul_one (V : World) (b : Nat) (p : Option Addr) (c n : Nat) (l : List Nat) (e : l.length = n) (h0 : Bx V b 24 #[.slice p n c]) (hin : NatIn V V.heap.size (.agg #[.slice p n c]) l) (hl : n ≤ 1000) (B : Nat) (hB : B ≤ V.heap.size) :
    Calls Tryz.prog 23 #[.slice (some ⟨b, 0, none⟩) 1 1] V (FP B (nv 4294967296 l) V) := by
  subst e
  have h := mul_any (some ⟨b, 0, none⟩) 1 [l] V (nats_one h0 hin) (by simp) (by simp only [tot]; omega)
  rw [show prodv [l] = nv 4294967296 l by simp [prodv]] at h
  exact h.mono fun e w' h => FP.of h hB
/-- what a difference tells. -/
def SP (s : Nat) (dd : Bool) (V : World) (e : Ending) (w' : World) : Prop := ∃ q n c, e = .returned (.tuple #[.agg #[.slice q n c], .bool dd]) ∧ FNat w' V.heap.size (.agg #[.slice q n c]) s ∧ Below V.heap.size V w'
theorem SP.of {s : Nat} {dd : Bool} {V w' : World} {e : Ending} (h : ∃ v, e = .returned (.tuple #[v, .bool dd]) ∧ FNat w' V.heap.size v s ∧ Below V.heap.size V w') : SP s dd V e w' := by
  obtain ⟨v, rfl, hf, hb⟩ := h
  obtain ⟨q, c, k, rfl, hr⟩ := hf
  exact ⟨q, k.length, c, rfl, ⟨q, c, k, rfl, hr⟩, hb⟩
theorem fnat_len {q : Option Addr} {x d : Nat} {W : World} {B m : Nat} {l : List Nat} (hf : FNat W B (.agg #[.slice q x d]) m) (hd : Digs 4294967296 l) (hl : l.length ≤ 60) (hm : m ≤ nv 4294967296 l) : x ≤ 100000 := by
  have := small_of_len hd (by omega)
  have := nat_val hf (by omega)
  omega
/-- what stays of what was handed in. -/
structure Sx (w V : World) (b3 b4 b7 b8 gx cx gy cy : Nat) (p q : Option Addr) (c d : Nat) (l m : List Nat) : Prop where
  g : Below w.heap.size w V
  x3 : Bx V b3 24 #[.slice p l.length c]
  x4 : Bx V b4 24 #[.slice q m.length d]
  x7 : Bx V b7 24 #[.slice (some ⟨gx, 0, none⟩) l.length cx]
  x8 : Bx V b8 24 #[.slice (some ⟨gy, 0, none⟩) m.length cy]
  lx : LentL V w.heap.size gx cx l
  ly : LentL V w.heap.size gy cy m
theorem Sx.below {w V V' : World} {b3 b4 b7 b8 gx cx gy cy : Nat} {p q : Option Addr} {c d : Nat} {l m : List Nat} (h : Sx w V b3 b4 b7 b8 gx cx gy cy p q c d l m) (hb : Below V.heap.size V V') : Sx w V' b3 b4 b7 b8 gx cx gy cy p q c d l m :=
  ⟨bl_trans h.g hb, h.x3.below hb, h.x4.below hb, h.x7.below hb, h.x8.below hb, h.lx.below hb, h.ly.below hb⟩

set_option maxHeartbeats 6400000 in
set_option maxRecDepth 100000 in
theorem tells_out (p q : Option Addr) (c d : Nat) (l m : List Nat) (n : Nat) (w : World) (htab : Lib.TabIs Tryz.prog w "internal/strconv.uint64pow10" .u64 Lib.pow10Tab)
    (h1 : NatIn w w.heap.size (.agg #[.slice p l.length c]) l) (h2 : NatIn w w.heap.size (.agg #[.slice q m.length d]) m) (ht : l.length + m.length ≤ 1000000000000000000) (hg : 58 < l.length + m.length) :
    Calls Tryz.prog 3 #[.agg #[.slice p l.length c], .agg #[.slice q m.length d], .int .u64 (n : Nat)] w fun e w' => e = .returned (.bool true) ∧ Below w.heap.size w w' := by
  obtain ⟨W2, hW2⟩ : ∃ W, W = (w.alloc (.cells #[.slice p l.length c] 24)).alloc (.cells #[.slice q m.length d] 24) := ⟨_, rfl⟩
  have g2 : Below w.heap.size w W2 := by rw [hW2]; exact bl_trans (bl_alloc _ _) (bl_alloc _ _)
  have c1 : W2.cell? ⟨w.heap.size, 0, none⟩ = some (.slice p l.length c) := by rw [hW2, World.cell?_alloc_past _ _ _ (by simp), World.cell?_alloc_at _ _ _ _ rfl]; rfl
  have c2 : W2.cell? ⟨w.heap.size + 1, 0, none⟩ = some (.slice q m.length d) := by rw [hW2, World.cell?_alloc_at _ _ _ _ (by simp)]; rfl
  have hni := nats_two (T := 24) g2 h1 h2
  have hgr := great_any _ 2 [l, m] _ hni (by simp) (by simp only [tot]; omega)
  rw [show decide (60 < [l, m].length + tot [l, m]) = true by rw [decide_eq_true_iff]; simp only [tot, List.length_cons, List.length_nil]; omega] at hgr
  have HGR := Lib.hid hgr
  have HW2 := Lib.hid hW2.symm
  have G2 := Lib.hid g2
  have HTAB := Lib.hid htab
  clear htab h1 h2 ht hg hW2 g2 hni hgr
  go_enter Tryz.func3, Tryz.ntmps3
  go_upto_region 1 with fail
  rw [HW2.out]
  go_wp2_with fail
  refine HGR.out.mono ?_
  rintro e w3 ⟨rfl, k, rfl⟩
  obtain ⟨W3, hW3⟩ : ∃ W, W = (W2.alloc (.cells #[.slice p l.length c, .slice q m.length d] 24)).drewN k := ⟨_, rfl⟩
  have g3 : Below w.heap.size w W3 := by rw [hW3]; exact bl_trans (bl_trans G2.out (bl_alloc _ _)) (Joins.below_draws _ _ _)
  rw [← hW3]
  have HAW := Lib.hid (awake_any W3 (tabIs_below HTAB.out g3))
  have G3 := Lib.hid g3
  clear hW3 g3 HGR c1 c2
  go_wp2_with fail
  refine HAW.out.mono ?_
  rintro e w4 ⟨rfl, hb⟩
  have HB := Lib.hid (bl_trans G3.out hb)
  clear hb HAW
  go_wp2
  go_ret
  exact ⟨rfl, HB.out⟩

theorem small60 {l : List Nat} {s : Nat} (hd : Digs 4294967296 l) (hl : l.length ≤ 60) (hs : s ≤ nv 4294967296 l) : s < 2 ^ kbits := by
  have h1 := nv_lt32 l hd
  refine Nat.lt_of_le_of_lt hs (Nat.lt_of_lt_of_le h1 (Nat.pow_le_pow_right (by omega) ?_))
  have := kbits_eq
  omega
theorem rightg_at {V : World} {p : Option Addr} {c : Nat} {l : List Nat} (h : NatIn V V.heap.size (.agg #[.slice p l.length c]) l) :
    Calls Tryz.prog 12 #[.agg #[.slice p l.length c]] V fun e w' => e = .returned (.bool (decide (tlen l = l.length))) ∧ Below V.heap.size V w' := by
  obtain ⟨p', c', e, ho, _, h3, h4, h5⟩ := h
  simp only [Value.agg.injEq, Array.mk.injEq, List.cons.injEq, Value.slice.injEq, and_true] at e
  obtain ⟨rfl, _, rfl⟩ := e
  exact rightg_any p c l V ho.sl h3 h4 h5
theorem lent_at (p : Option Addr) (c : Nat) (l : List Nat) (V : World) (B : Nat) (hs : Sl V .u32 p l) (hl : l.length ≤ 60) (hp : p = none → c = 0) (hB : B ≤ V.heap.size) :
    Calls Tryz.prog 8 #[.agg #[.slice p l.length c]] V fun e w' => ∃ g cap, e = .returned (.agg #[.slice (some ⟨g, 0, none⟩) l.length cap]) ∧ LentL w' B g cap l ∧ Below V.heap.size V w' := by
  refine (lentn_any p c l V hs (by omega) hp).mono ?_
  rintro e w' ⟨g, cap, h1, h2, h3⟩
  exact ⟨g, cap, h1, h2.down hB, h3⟩
theorem sub_at (p q : Option Addr) (c d : Nat) (l m : List Nat) (V : World) (h1 : NatIn V V.heap.size (.agg #[.slice p l.length c]) l) (h2 : NatIn V V.heap.size (.agg #[.slice q m.length d]) m) (hl : l.length ≤ 60) (hm : m.length ≤ 60) :
    Calls Tryz.prog 9 #[.agg #[.slice p l.length c], .agg #[.slice q m.length d]] V (SP (nv 4294967296 l - nv 4294967296 m) (decide (nv 4294967296 m ≤ nv 4294967296 l)) V) :=
  (subg_any p q c d l m V h1 h2 (by omega) (by omega)).mono fun _ _ h => SP.of h
theorem rsub_at (p q : Option Addr) (c d : Nat) (l m : List Nat) (V : World) (h1 : Sl V .u32 p l) (h2 : Sl V .u32 q m) (d1 : Digs 4294967296 l) (d2 : Digs 4294967296 m) (hl : l.length ≤ 60) (hm : m.length ≤ 60) :
    Calls Tryz.prog 10 #[.agg #[.slice p l.length c], .agg #[.slice q m.length d]] V (SP (nv 4294967296 l - nv 4294967296 m) (decide (nv 4294967296 m ≤ nv 4294967296 l)) V) :=
  (rsub_any p q c d l m V h1 h2 d1 d2 (by omega) (by omega)).mono fun _ _ h => SP.of h

set_option maxHeartbeats 12800000 in
set_option maxRecDepth 100000 in
theorem tells_in (p q : Option Addr) (c d : Nat) (l m : List Nat) (n : Nat) (w : World) (htab : Lib.TabIs Tryz.prog w "internal/strconv.uint64pow10" .u64 Lib.pow10Tab)
    (h1 : NatIn w w.heap.size (.agg #[.slice p l.length c]) l) (h2 : NatIn w w.heap.size (.agg #[.slice q m.length d]) m) (hg : l.length + m.length ≤ 58) (hn : n < 2 ^ 64) :
    Calls Tryz.prog 3 #[.agg #[.slice p l.length c], .agg #[.slice q m.length d], .int .u64 (n : Nat)] w fun e w' => e = .returned (.bool true) ∧ Below w.heap.size w w' := by
  obtain ⟨hd1, hs1, hp1⟩ : Digs 4294967296 l ∧ Sl w .u32 p l ∧ (p = none → c = 0) := by
    obtain ⟨p', c', e, ho, h, _, _, hn⟩ := h1
    simp only [Value.agg.injEq, Array.mk.injEq, List.cons.injEq, Value.slice.injEq, and_true] at e
    obtain ⟨rfl, _, rfl⟩ := e
    exact ⟨h, ho.sl, hn⟩
  obtain ⟨hd2, hs2, hp2⟩ : Digs 4294967296 m ∧ Sl w .u32 q m ∧ (q = none → d = 0) := by
    obtain ⟨p', c', e, ho, h, _, _, hn⟩ := h2
    simp only [Value.agg.injEq, Array.mk.injEq, List.cons.injEq, Value.slice.injEq, and_true] at e
    obtain ⟨rfl, _, rfl⟩ := e
    exact ⟨h, ho.sl, hn⟩
  have hl60 : l.length ≤ 60 := by omega
  have hm60 : m.length ≤ 60 := by omega
  obtain ⟨W2, hW2⟩ : ∃ W, W = (w.alloc (.cells #[.slice p l.length c] 24)).alloc (.cells #[.slice q m.length d] 24) := ⟨_, rfl⟩
  have g2 : Below w.heap.size w W2 := by rw [hW2]; exact bl_trans (bl_alloc _ _) (bl_alloc _ _)
  have x1 : Bx W2 w.heap.size 24 #[.slice p l.length c] := by rw [hW2]; exact (Bx.new w _ _).below (bl_alloc _ _)
  have x2 : Bx W2 (w.heap.size + 1) 24 #[.slice q m.length d] := by
    have h := Bx.new (w.alloc (.cells #[.slice p l.length c] 24)) 24 #[.slice q m.length d]
    rw [← hW2, show (w.alloc (.cells #[.slice p l.length c] 24)).heap.size = w.heap.size + 1 by simp] at h
    exact h
  have hni := nats_two (T := 24) g2 h1 h2
  have hgr := great_any _ 2 [l, m] _ hni (by simp) (by simp only [tot]; omega)
  rw [show decide (60 < [l, m].length + tot [l, m]) = false by rw [decide_eq_false_iff_not]; simp only [tot, List.length_cons, List.length_nil]; omega] at hgr
  have HGR := Lib.hid hgr
  have HW2 := Lib.hid hW2.symm
  have G2 := Lib.hid g2
  have HTAB := Lib.hid htab
  have HC := Lib.hid (And.intro (And.intro hd1 hd2) (And.intro hs1 hs2))
  have HP := Lib.hid (And.intro hp1 hp2)
  have HL := Lib.hid (And.intro hl60 hm60)
  have X12 := Lib.hid (And.intro x1 x2)
  have HN := Lib.hid hn
  have c1 : W2.cell? ⟨w.heap.size, 0, none⟩ = some (.slice p l.length c) := x1.cell (i := 0) rfl
  have c2 : W2.cell? ⟨w.heap.size + 1, 0, none⟩ = some (.slice q m.length d) := x2.cell (i := 0) rfl
  clear htab h1 h2 hg hW2 g2 hni hgr hd1 hd2 hs1 hs2 hp1 hp2 hl60 hm60 x1 x2 hn
  go_enter Tryz.func3, Tryz.ntmps3
  go_upto_region 1 with fail
  rw [HW2.out]
  go_wp2_with fail
  refine HGR.out.mono ?_
  rintro e w3 ⟨rfl, k, rfl⟩
  obtain ⟨W3, hW3⟩ : ∃ W, W = (W2.alloc (.cells #[.slice p l.length c, .slice q m.length d] 24)).drewN k := ⟨_, rfl⟩
  have g3 : Below W2.heap.size W2 W3.drew := by rw [hW3]; exact bl_trans (bl_trans (bl_alloc _ _) (Joins.below_draws _ _ _)) (bl_drew _)
  rw [← hW3]
  have G3 := Lib.hid (bl_trans G2.out g3)
  have X3 := Lib.hid (And.intro (X12.out.1.below g3) (X12.out.2.below g3))
  have HLX := Lib.hid (fun (V : World) (hV : Below W3.drew.heap.size W3.drew V) => lent_at p c l V w.heap.size (HC.out.2.1.below (bl_trans G3.out hV)) HL.out.1 HP.out.1 (bl_trans G3.out hV).size)
  have HLY := Lib.hid (fun (V : World) (hV : Below W3.drew.heap.size W3.drew V) => lent_at q d m V w.heap.size (HC.out.2.2.below (bl_trans G3.out hV)) HL.out.2 HP.out.2 (bl_trans G3.out hV).size)
  clear hW3 g3 HGR c1 c2 X12
  go_upto_region 3 with fail
  refine nt3_all p q l.length c m.length d w.heap.size (w.heap.size + 1) W3.drew.heap.size w.heap.size l m (by rfl) (by rfl) (by rfl) rfl (X3.out.1.cell rfl) (X3.out.2.cell rfl) HLX.out HLY.out ?_ _
  intro gx cx gy cy b7 b8 y lx ly x7 x8 z7 z8 hne hb
  have S0 : Hid (Sx w y w.heap.size (w.heap.size + 1) b7 b8 gx cx gy cy p q c d l m) := ⟨bl_trans G3.out hb, X3.out.1.below hb, X3.out.2.below hb, x7, x8, lx, ly⟩
  clear lx ly x7 x8 z7 z8 hne hb HLX HLY X3 G3 G2
  simp only [putL, List.foldl, Act.put, List.setIfInBounds_toArray, List.set_cons_zero, List.set_cons_succ]
  have HSUB := Lib.hid (fun (V : World) (hV : Below y.heap.size y V) => sub_at (some ⟨gx, 0, none⟩) (some ⟨gy, 0, none⟩) cx cy l m V ((S0.out.below hV).lx.nat HC.out.1.1) ((S0.out.below hV).ly.nat HC.out.1.2) HL.out.1 HL.out.2)
  have HRSUB := Lib.hid (fun (V : World) (hV : Below y.heap.size y V) => rsub_at p q c d l m V (HC.out.2.1.below (S0.out.below hV).g) (HC.out.2.2.below (S0.out.below hV).g) HC.out.1.1 HC.out.1.2 HL.out.1 HL.out.2)
  have HSV : Hid (nv 4294967296 l - nv 4294967296 m ≤ nv 4294967296 l) := Nat.sub_le _ _
  generalize decide (nv 4294967296 m ≤ nv 4294967296 l) = dd at HSUB HRSUB
  generalize nv 4294967296 l - nv 4294967296 m = s at HSUB HRSUB HSV
  -- the difference
  have HS4 := Lib.hid (HSUB.out y (Below.refl _ _))
  have k7 : y.cell? ⟨b7, 0, none⟩ = some (.slice (some ⟨gx, 0, none⟩) l.length cx) := S0.out.x7.cell (i := 0) rfl
  have k8 : y.cell? ⟨b8, 0, none⟩ = some (.slice (some ⟨gy, 0, none⟩) m.length cy) := S0.out.x8.cell (i := 0) rfl
  go_upto_region 4 with fail
  go_wp2_with fail
  refine HS4.out.mono ?_
  rintro e w4 ⟨q9, n9, c9, rfl, hf9, hb4⟩
  obtain ⟨W4, hW4⟩ : ∃ W, W = w4.alloc (.cells #[.slice q9 n9 c9] 24) := ⟨_, rfl⟩
  obtain ⟨b9, hb9⟩ : ∃ b, b = w4.heap.size := ⟨_, rfl⟩
  have HW4 := Lib.hid (And.intro hb9.symm hW4.symm)
  have g4 : Below w4.heap.size w4 W4 := by rw [hW4]; exact bl_alloc _ _
  have x9 : Bx W4 b9 24 #[.slice q9 n9 c9] := by rw [hW4, hb9]; exact Bx.new _ _ _
  have Y4 := Lib.hid (bl_trans hb4 g4)
  have F94 := Lib.hid (hf9.below g4)
  have X94 := Lib.hid x9
  have S4 := Lib.hid (S0.out.below Y4.out)
  have HS5 := Lib.hid (HRSUB.out W4 Y4.out)
  clear HS4 k7 k8 hf9 hb4 hW4 hb9 g4 x9
  go_upto_region 5 with fail
  rw [HW4.out.1, HW4.out.2]
  have k3 : W4.cell? ⟨w.heap.size, 0, none⟩ = some (.slice p l.length c) := S4.out.x3.cell (i := 0) rfl
  have k4 : W4.cell? ⟨w.heap.size + 1, 0, none⟩ = some (.slice q m.length d) := S4.out.x4.cell (i := 0) rfl
  go_wp2_with fail
  refine HS5.out.mono ?_
  rintro e w5 ⟨q11, n11, c11, rfl, hf11, hb5⟩
  obtain ⟨W5, hW5⟩ : ∃ W, W = w5.alloc (.cells #[.slice q11 n11 c11] 24) := ⟨_, rfl⟩
  obtain ⟨b11, hb11⟩ : ∃ b, b = w5.heap.size := ⟨_, rfl⟩
  have HW5 := Lib.hid (And.intro hb11.symm hW5.symm)
  have g5 : Below w5.heap.size w5 W5 := by rw [hW5]; exact bl_alloc _ _
  have g45 := bl_trans hb5 g5
  have x11 : Bx W5 b11 24 #[.slice q11 n11 c11] := by rw [hW5, hb11]; exact Bx.new _ _ _
  have Y5 := Lib.hid (bl_trans Y4.out g45)
  have F95 := Lib.hid (F94.out.below g45)
  have X95 := Lib.hid (X94.out.below g45)
  have F115 := Lib.hid (hf11.below g5)
  have X115 := Lib.hid x11
  have S5 := Lib.hid (S0.out.below Y5.out)
  have HS6 := Lib.hid (HSUB.out W5 Y5.out)
  have P9 : Hid (∀ b, blk q9 = some b → b < W5.heap.size) := by
    obtain ⟨k, _, ho⟩ := fnat_own F95.out
    exact fun b e => ((own_d ho).2.2 b e).1
  have Z5 : Hid (y.heap.size ≤ W5.heap.size) := Y5.out.size
  clear HS5 k3 k4 hf11 hb5 hW5 hb11 g5 g45 x11 X94 F94 S4 Y4 HW4
  go_upto_region 6 with fail
  rw [HW5.out.1, HW5.out.2]
  have k7 : W5.cell? ⟨b7, 0, none⟩ = some (.slice (some ⟨gx, 0, none⟩) l.length cx) := S5.out.x7.cell (i := 0) rfl
  have k8 : W5.cell? ⟨b8, 0, none⟩ = some (.slice (some ⟨gy, 0, none⟩) m.length cy) := S5.out.x8.cell (i := 0) rfl
  go_wp2_with fail
  refine HS6.out.mono ?_
  rintro e w6 ⟨q13, n13, c13, rfl, hf13, hb6⟩
  obtain ⟨W6, hW6⟩ : ∃ W, W = w6.alloc (.cells #[.slice q13 n13 c13] 24) := ⟨_, rfl⟩
  obtain ⟨b13, hb13⟩ : ∃ b, b = w6.heap.size := ⟨_, rfl⟩
  have HW6 := Lib.hid (And.intro hb13.symm hW6.symm)
  have g6 : Below w6.heap.size w6 W6 := by rw [hW6]; exact bl_alloc _ _
  have g56 := bl_trans (bl_trans hb6 g6) (bl_drew W6)
  have x13 : Bx W6.drew b13 24 #[.slice q13 n13 c13] := by rw [hW6, hb13]; exact (Bx.new _ _ _).below (bl_drew _)
  have Y6 := Lib.hid (bl_trans Y5.out g56)
  have F96 := Lib.hid (F95.out.below g56)
  have X96 := Lib.hid (X95.out.below g56)
  have F116 := Lib.hid (F115.out.below g56)
  have X116 := Lib.hid (X115.out.below g56)
  have F136 := Lib.hid (hf13.below (bl_trans g6 (bl_drew W6)))
  have X136 := Lib.hid x13
  have S6 := Lib.hid (S0.out.below Y6.out)
  have LE56 : Hid (W5.heap.size ≤ W6.drew.heap.size) := g56.size
  clear HS6 k7 k8 hf13 hb6 hW6 hb13 g6 g56 x13 X95 X115 F95 F115 S5 Y5 HW5 HSUB HRSUB
  go_upto_region 7 with fail
  rw [HW6.out.1, HW6.out.2]
  have NX := Lib.hid (fun (V : World) (hV : Below W6.drew.heap.size W6.drew V) => (S6.out.below hV).lx.nat HC.out.1.1)
  have NY := Lib.hid (fun (V : World) (hV : Below W6.drew.heap.size W6.drew V) => (S6.out.below hV).ly.nat HC.out.1.2)
  have SA := Lib.hid (fun (V : World) (hV : Below W6.drew.heap.size W6.drew V) => HC.out.2.1.below (S6.out.below hV).g)
  have SB := Lib.hid (fun (V : World) (hV : Below W6.drew.heap.size W6.drew V) => HC.out.2.2.below (S6.out.below hV).g)
  have TB := Lib.hid (fun (V : World) (hV : Below W6.drew.heap.size W6.drew V) => tabIs_below HTAB.out (S6.out.below hV).g)
  refine nt7_wp p q q9 q11 l.length c m.length d gx cx gy cy n9 c9 n11 c11 w.heap.size (w.heap.size + 1) b7 b8 b9 b11 n dd (decide (tlen l = l.length)) (ord (nv 4294967296 l) (nv 4294967296 m)) ⟨(Lib.decDigits (nv 4294967296 l)).toArray⟩ (by rfl) (by rfl) (by rfl) (by rfl) (by rfl) (by rfl) (by rfl) (by rfl) (by rfl) (by rfl) (S6.out.x3.cell rfl) (S6.out.x4.cell rfl) (S6.out.x7.cell rfl) (S6.out.x8.cell rfl) (X96.out.cell rfl) (X116.out.cell rfl)
    (fun V hV => fnat_same (F96.out.below hV) (F116.out.below hV) (small60 HC.out.1.1 HL.out.1 HSV.out) (by decide))
    (fun V hV => rightg_at (NX.out V hV))
    (fun V hV => rrightn_any p c l V (SA.out V hV) (by have := HL.out.1; omega))
    (fun V hV => cmp_any _ _ l m V (NX.out V hV) (NY.out V hV) (by have := HL.out.1; omega) (by have := HL.out.2; omega))
    (fun V hV => rcmp_any p q c d l m V (SA.out V hV) (SB.out V hV) HC.out.1.1 HC.out.1.2 (by have := HL.out.1; omega) (by have := HL.out.2; omega))
    (fun V hV => text_any _ l V (NX.out V hV) (by have := HL.out.1; omega) (TB.out V hV))
    (fun V hV => rtext_any p c l V (SA.out V hV) HC.out.1.1 (by have := HL.out.1; omega))
    (fun V hV => (of_any n V HN.out).mono fun _ _ h => FP.of h (Nat.zero_le _))
    (fun V hV => (rof_any n V HN.out).mono fun _ _ h => FP.of h (Nat.zero_le _)) HN.out ?_ _
  intro f y7 hk hb7
  have e39 : f 39 = .bool false := hk 39 (by decide) (by decide)
  have G7 := Lib.hid (bl_trans hb7 (bl_drew y7))
  clear hk hb7
  rw [e39]
  clear e39
  generalize f 0 = f0, f 1 = f1, f 2 = f2, f 3 = f3, f 4 = f4, f 5 = f5, f 6 = f6, f 7 = f7, f 8 = f8, f 9 = f9, f 10 = f10, f 11 = f11, f 12 = f12, f 13 = f13, f 14 = f14, f 15 = f15, f 16 = f16, f 17 = f17, f 18 = f18, f 19 = f19, f 20 = f20, f 21 = f21, f 22 = f22, f 23 = f23, f 24 = f24, f 25 = f25, f 26 = f26, f 27 = f27, f 28 = f28, f 29 = f29, f 30 = f30, f 31 = f31, f 32 = f32, f 33 = f33, f 34 = f34, f 35 = f35, f 36 = f36, f 37 = f37, f 38 = f38
  simp only [putL, List.foldl, Act.put, List.setIfInBounds_toArray, List.set_cons_zero, List.set_cons_succ]
  clear f
  have Y7 := Lib.hid (bl_trans Y6.out G7.out)
  have S7 := Lib.hid (S0.out.below Y7.out)
  have F97 := Lib.hid (F96.out.below G7.out)
  have X97 := Lib.hid (X96.out.below G7.out)
  have F137 := Lib.hid (F136.out.below G7.out)
  have X137 := Lib.hid (X136.out.below G7.out)
  clear F96 X96 F116 X116 F136 X136 S6 HW6 NX NY SA SB TB HN
  go_upto_region 9 with fail
  have gd7 : Below y7.heap.size y7 y7.drew := bl_drew y7
  refine nt9_all p q q9 q13 l.length c m.length d gx cx gy cy n9 c9 n13 c13 w.heap.size (w.heap.size + 1) b7 b8 b9 b13 y7.drew.heap.size (nv 4294967296 l) (nv 4294967296 l) (fun V => Below y.heap.size y V) (by rfl) (by rfl) (by rfl) (by rfl) (by rfl) (by rfl) (by rfl) rfl (S7.out.x3.cell rfl) (S7.out.x4.cell rfl) (S7.out.x7.cell rfl) (S7.out.x8.cell rfl) (X97.out.cell rfl) (X137.out.cell rfl)
    (fun V hV => keptn_any p c l _ gx cx V (HC.out.2.1.below (S7.out.below hV).g) (by have := HL.out.1; omega) (S7.out.below hV).lx)
    (fun V hV => keptn_any q d m _ gy cy V (HC.out.2.2.below (S7.out.below hV).g) (by have := HL.out.2; omega) (S7.out.below hV).ly)
    (fun V b hV hx => add_one V b _ cx l.length l rfl hx ((S7.out.below hV).lx.nat HC.out.1.1) (by have := HL.out.1; omega) _ hV.size)
    (fun V b hV hx => mul_one V b _ cx l.length l rfl hx ((S7.out.below hV).lx.nat HC.out.1.1) (by have := HL.out.1; omega) _ hV.size)
    ?_ (fun V hV => (S0.out.below hV).x7.cell rfl) (fun V hV => (S0.out.below hV).x3.cell rfl)
    (fun V hV => (keptn_any p c l _ gx cx V (HC.out.2.1.below (S0.out.below hV).g) (by have := HL.out.1; omega) (S0.out.below hV).lx).mono fun _ _ h => ⟨h.1, bl_trans hV h.2⟩)
    (fun V hV => (awake_any V (tabIs_below HTAB.out (S0.out.below hV).g)).mono fun _ _ h => ⟨h.1, bl_trans hV h.2⟩) ?_ _
  · intro V q3 q4 n3 c3 n4 c4 B3 B4 hV hB3 hB4 hf3 hf4 h34
    have f9 := F97.out.below hV
    have f13 := F137.out.below hV
    have hle : W5.heap.size ≤ y7.drew.heap.size := by have h1 := F137.out; have h2 := G7.out.size; have h3 := LE56.out; omega
    obtain ⟨k1, _, o1⟩ := fnat_own f9
    obtain ⟨k2, _, o2⟩ := fnat_own f13
    obtain ⟨k3, _, o3⟩ := fnat_own hf3
    obtain ⟨k4, _, o4⟩ := fnat_own hf4
    have l1 := (own_d o1).2.2
    have l2 := (own_d o2).2.2
    have l3 := (own_d o3).2.2
    have l4 := (own_d o4).2.2
    have p13 : ∀ b, blk q13 = some b → b < y7.drew.heap.size := by
      obtain ⟨k, _, ho⟩ := fnat_own F137.out
      exact fun b e => ((own_d ho).2.2 b e).1
    have hp9 := P9.out
    have hz5 := Z5.out
    have hyV := bl_trans Y7.out hV
    have hsz := hyV.size
    refine (apart4_any q9 q13 q3 q4 n9 n13 n3 n4 c9 c13 c3 c4 _ _ _ _ _ _ _ _ V f9 f13 hf3 hf4 (fnat_len f9 HC.out.1.1 HL.out.1 HSV.out) (fnat_len f13 HC.out.1.1 HL.out.1 HSV.out) (fnat_len hf3 HC.out.1.1 HL.out.1 (Nat.le_refl _)) (fnat_len hf4 HC.out.1.1 HL.out.1 (Nat.le_refl _))
      (fun b e e' => by have u := hp9 b e; have v := (l2 b e').2.1; omega) (fun b e e' => by have u := hp9 b e; have v := (l3 b e').2.1; omega) (fun b e e' => by have u := hp9 b e; have v := (l4 b e').2.1; omega)
      (fun b e e' => by have u := p13 b e; have v := (l3 b e').2.1; omega) (fun b e e' => by have u := p13 b e; have v := (l4 b e').2.1; omega) h34).mono ?_
    rintro e w' ⟨rfl, hb⟩
    refine ⟨rfl, ?_⟩
    have g2 : Below V.heap.size V ((V.alloc (.cells #[.slice q9 n9 c9, .slice q13 n13 c13, .slice q3 n3 c3, .slice q4 n4 c4] 24)).alloc (.cells #[.slice (some ⟨V.heap.size, 0, none⟩) 4 4] 38)) := bl_trans (bl_alloc _ _) (bl_alloc _ _)
    refine (bl_trans hyV g2).trans (hb.below (by have := g2.size; omega) fun b s => ?_)
    rcases s with (s | s | s | s) | s
    · have v := (l1 b s).2.1; omega
    · have v := (l2 b s).2.1; omega
    · have v := (l3 b s).2.1; omega
    · have v := (l4 b s).2.1; omega
    · omega
  · intro f y' z q3 q4 n3 c3 n4 c4 hN
    have HB := Lib.hid (bl_trans S0.out.g hN)
    clear hN
    generalize y'.heap.size = Sz
    generalize f 12 = f12, f 15 = f15
    simp only [putL, List.foldl, Act.put, List.setIfInBounds_toArray, List.set_cons_zero, List.set_cons_succ]
    clear f
    go_wp2
    go_ret
    exact ⟨rfl, HB.out⟩
theorem tells_true (p q : Option Addr) (c d : Nat) (l m : List Nat) (n : Nat) (w : World) (htab : Lib.TabIs Tryz.prog w "internal/strconv.uint64pow10" .u64 Lib.pow10Tab)
    (h1 : NatIn w w.heap.size (.agg #[.slice p l.length c]) l) (h2 : NatIn w w.heap.size (.agg #[.slice q m.length d]) m) (ht : l.length + m.length ≤ 1000000000000000000) (hn : n < 2 ^ 64) :
    Calls Tryz.prog 3 #[.agg #[.slice p l.length c], .agg #[.slice q m.length d], .int .u64 (n : Nat)] w fun e w' => e = .returned (.bool true) ∧ Below w.heap.size w w' := by
  by_cases hg : 58 < l.length + m.length
  · exact tells_out p q c d l m n w htab h1 h2 ht hg
  · exact tells_in p q c d l m n w htab h1 h2 (by omega) hn
end Go.Proofs.YtcahnkocfbcchaaGreatDoor
