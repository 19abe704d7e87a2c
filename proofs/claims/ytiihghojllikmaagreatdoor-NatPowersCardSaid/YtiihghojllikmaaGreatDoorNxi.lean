/- NatPowers: its own walk. -/
import Derived.Test.YtiihghojllikmaaGreatDoorNxa
import Derived.Test.YtiihghojllikmaaGreatDoorNxh
import Derived.Test.YtiihghojllikmaaGreatDoorWy
namespace Go.Proofs.YtiihghojllikmaaGreatDoor
open Go.RowKit Tnd

def blk (p : Option Addr) : Option Nat := p.map Addr.block
theorem blk_ad (p : Option Nat) : blk (p.map fun b => (⟨b, 0, none⟩ : Addr)) = p := by cases p <;> rfl
/-- a row of the call's own, as a row handed out. -/
theorem own_d {w : World} {B sz n m c : Nat} {T : TypeId} {p : Option Addr} {xs : List Value} (h : w.ownsRow B T sz (.slice p m c) n xs) :
    Value.slice p m c = D.val ⟨blk p, m, c⟩ ∧ Room w sz ⟨blk p, m, c⟩ ∧ ∀ b, blk p = some b → b < w.heap.size ∧ B ≤ b ∧ ∃ cur, w.heap[b]? = some (.cells cur T (0, 0)) := by
  obtain ⟨d, h1, h2, h3, _, h5⟩ := room_of_own h
  obtain ⟨dp, dn, dc⟩ := d
  simp only [D.val, D.ad, Value.slice.injEq] at h1
  obtain ⟨rfl, rfl, rfl⟩ := h1
  rw [blk_ad]
  refine ⟨rfl, h3, fun b e => ⟨h3.lt b e, h5 b e, ?_⟩⟩
  rcases h.2 with ⟨e1, _⟩ | ⟨g, cap, cur, e1, _, hh, _⟩
  · simp only [Value.slice.injEq] at e1
    rw [e] at e1; simp at e1
  · simp only [Value.slice.injEq] at e1
    rw [e] at e1
    simp only [Option.map_some, Option.some.injEq, Addr.mk.injEq] at e1
    obtain ⟨⟨rfl, _⟩, _⟩ := e1
    exact ⟨cur, hh⟩
theorem row_but {w w' : World} {B n z : Nat} {T : TypeId} {v : Value} {xs : List Value} {S : Nat → Prop} (h : w.ownsRow B T z v n xs) (hb : But S w w') (hS : ∀ g, v.ownBlock = some g → ¬ S g) : w'.ownsRow B T z v n xs := by
  obtain ⟨h1, h2⟩ := h
  refine ⟨h1, ?_⟩
  rcases h2 with h2 | ⟨g, cap, cur, rfl, hg, hh, r⟩
  · exact .inl h2
  · exact .inr ⟨g, cap, cur, rfl, hg, by rw [hb.block g (lt_of_block hh) (hS g rfl)]; exact hh, r⟩
/-- what a power is, and with what error. -/
def pe (z : Int) : Int := if z < 0 then 2 else 0
def pm (x : Nat) (z : Int) : Nat := if z < 0 then 0 else x ^ z.toNat
theorem pm_lt {x : Nat} {z : Int} (hx : x < 2 ^ 96) (hz : z ≤ 40) : pm x z < 2 ^ kbits := by
  unfold pm
  split
  · exact Nat.pow_pos (by omega)
  · rcases pow_small x 3 z.toNat hx with h | h
    · exact Nat.lt_of_lt_of_le h (Nat.pow_le_pow_right (by omega) (by have := kbits_eq; omega))
    · rw [h]; exact Nat.one_lt_two_pow (by have := kbits_eq; omega)
theorem fnat_nil (w : World) (B : Nat) : FNat w B (.agg #[.slice none 0 0]) 0 := ⟨none, 0, [], rfl, own_nil _ _ _ _, fun _ h => (nomatch h), right_nil, rfl⟩
theorem nat_val {q : Option Addr} {x d : Nat} {W : World} {B m : Nat} (hf : FNat W B (.agg #[.slice q x d]) m) (hm : m < tooBig) : x ≤ 2000 := by
  obtain ⟨p, c, k, e, _, _, hr, hv⟩ := hf
  simp only [Value.agg.injEq, Array.mk.injEq, List.cons.injEq, Value.slice.injEq, and_true] at e
  obtain ⟨rfl, rfl, rfl⟩ := e
  by_cases h : 2000 < k.length
  · have := big_of_len hr h; omega
  · omega
theorem pm_big {l : List Nat} {z : Int} (hd : Digs 4294967296 l) (hl : l.length ≤ 3) (hz : z ≤ 40) : pm (nv 4294967296 l) z < tooBig := by
  unfold pm
  split
  · exact Nat.lt_trans (by omega) one_lt_big
  · exact small_big _ l.length _ (nv_lt _ l hd) (by have := Nat.mul_le_mul hl (show z.toNat ≤ 40 by omega); omega)
theorem pw_any (p : Option Addr) (c : Nat) (l : List Nat) (z : Int) (W : World) (hl : l.length ≤ 3) (hz : z ≤ 40) (hd : Digs 4294967296 l) (hin : NatIn W W.heap.size (.agg #[.slice p l.length c]) l) :
    Calls Tryz.prog 24 #[.agg #[.slice p l.length c], .int .i64 z] W fun e w' => ∃ q x d, e = .returned (.tuple #[.agg #[.slice q x d], .int .i64 (pe z)]) ∧ FNat w' W.heap.size (.agg #[.slice q x d]) (pm (nv 4294967296 l) z) ∧ x ≤ 2000 ∧ Below W.heap.size W w' := by
  have hbig := pm_big hd hl hz
  unfold pm pe at *
  by_cases h : z < 0
  · rw [if_pos h, if_pos h]
    refine (pow_neg p l.length c z W h).mono ?_
    rintro e w' ⟨rfl, hb⟩
    exact ⟨none, 0, 0, rfl, fnat_nil _ _, by omega, hb⟩
  · rw [if_neg h] at hbig
    rw [if_neg h, if_neg h]
    refine (pow_int z z.toNat (by omega) _ l W hin (by omega) (by omega) hbig).mono ?_
    rintro e w' ⟨v, rfl, hf, hb⟩
    have hf2 := hf
    obtain ⟨q, d, k, rfl, _⟩ := hf2
    exact ⟨q, k.length, d, rfl, hf, nat_val hf hbig, hb⟩
theorem rpw_any (p : Option Addr) (c : Nat) (l : List Nat) (z : Int) (W : World) (hl : l.length ≤ 3) (hz : z ≤ 40) (hd : Digs 4294967296 l) (hs : Sl W .u32 p l) :
    Calls Tryz.prog 25 #[.agg #[.slice p l.length c], .int .i64 z] W fun e w' => ∃ q x d, e = .returned (.tuple #[.agg #[.slice q x d], .int .i64 (pe z)]) ∧ FNat w' W.heap.size (.agg #[.slice q x d]) (pm (nv 4294967296 l) z) ∧ x ≤ 2000 ∧ Below W.heap.size W w' := by
  have hbig := pm_big hd hl hz
  unfold pm pe at *
  by_cases h : z < 0
  · rw [if_pos h, if_pos h]
    refine (rpow_neg p l.length c z W h).mono ?_
    rintro e w' ⟨rfl, hb⟩
    exact ⟨none, 0, 0, rfl, fnat_nil _ _, by omega, hb⟩
  · rw [if_neg h] at hbig
    rw [if_neg h, if_neg h]
    refine (rpow_pos p c l z.toNat z (by omega) W hs hd hl (by omega)).mono ?_
    rintro e w' ⟨v, rfl, hf, hb⟩
    have hf2 := hf
    obtain ⟨q, d, k, rfl, _⟩ := hf2
    exact ⟨q, k.length, d, rfl, hf, nat_val hf hbig, hb⟩
theorem fnat_own {W : World} {B m x d : Nat} {q : Option Addr} (hf : FNat W B (.agg #[.slice q x d]) m) : ∃ k : List Nat, x = k.length ∧ Own W B 46 .u32 (.slice q x d) k := by
  obtain ⟨p, c, k, e, ho, _⟩ := hf
  simp only [Value.agg.injEq, Array.mk.injEq, List.cons.injEq, Value.slice.injEq, and_true] at e
  obtain ⟨rfl, rfl, rfl⟩ := e
  exact ⟨k, rfl, ho⟩
/-- which blocks two numbers' list reaches. -/
def Two (p1 p2 : Option Addr) (R : Nat) (b : Nat) : Prop := blk p1 = some b ∨ blk p2 = some b ∨ b = R
/-- a list of two numbers of the call's own, whose digits lie apart. -/
theorem apart2_any (p1 p2 : Option Addr) (n1 n2 c1 c2 B1 B2 m1 m2 : Nat) (w : World) (h1 : FNat w B1 (.agg #[.slice p1 n1 c1]) m1) (h2 : FNat w B2 (.agg #[.slice p2 n2 c2]) m2) (k1 : n1 ≤ 2000) (k2 : n2 ≤ 2000) (h12 : ∀ b, blk p1 = some b → b < B2) :
    Calls Tryz.prog 21 #[.slice (some ⟨w.heap.size + 1, 0, none⟩) 1 1] ((w.alloc (.cells #[.slice p1 n1 c1, .slice p2 n2 c2] 24)).alloc (.cells #[.slice (some ⟨w.heap.size, 0, none⟩) 2 2] 38)) fun e w' => e = .returned (.bool true) ∧ But (Two p1 p2 w.heap.size) ((w.alloc (.cells #[.slice p1 n1 c1, .slice p2 n2 c2] 24)).alloc (.cells #[.slice (some ⟨w.heap.size, 0, none⟩) 2 2] 38)) w' := by
  obtain ⟨l1, _, o1⟩ := fnat_own h1
  obtain ⟨l2, _, o2⟩ := fnat_own h2
  obtain ⟨e1, r1, b1⟩ := own_d o1
  obtain ⟨e2, r2, b2⟩ := own_d o2
  obtain ⟨W1, hW1⟩ : ∃ W, W = w.alloc (.cells #[.slice p1 n1 c1, .slice p2 n2 c2] 24) := ⟨_, rfl⟩
  obtain ⟨W2, hW2⟩ : ∃ W, W = W1.alloc (.cells #[.slice (some ⟨w.heap.size, 0, none⟩) 2 2] 38) := ⟨_, rfl⟩
  have hs1 : W1.heap.size = w.heap.size + 1 := by rw [hW1]; simp
  have g1 : Below w.heap.size w W1 := by rw [hW1]; exact bl_alloc _ _
  have g2 : Below W1.heap.size W1 W2 := by rw [hW2]; exact bl_alloc _ _
  have g12 := bl_trans g1 g2
  have x1 : Bx W1 w.heap.size 24 #[.slice p1 n1 c1, .slice p2 n2 c2] := by rw [hW1]; exact Bx.new _ _ _
  have x2 : Bx W2 (w.heap.size + 1) 38 #[.slice (some ⟨w.heap.size, 0, none⟩) 2 2] := by rw [hW2, ← hs1]; exact Bx.new _ _ _
  have x12 := x1.below g2
  rw [← hW1, ← hW2]
  have hne : ∀ b, blk p1 = some b → blk p2 ≠ some b := fun b s t => by have := h12 b s; have := (b2 b t).2.1; omega
  have hr0 : ∀ k, k < 2 → Room W2 1 (dg [⟨blk p1, n1, c1⟩, ⟨blk p2, n2, c2⟩] k) := fun k hk => by
    match k, hk with
    | 0, _ => exact r1.below g12
    | 1, _ => exact r2.below g12
  have hr7 : Room W2 1 ⟨some w.heap.size, 2, 2⟩ := by
    refine ⟨Nat.le_refl _, by show 2 ≤ maxLen; simp only [maxLen]; omega, fun h => (nomatch h), fun b e => (by cases e; exact x12.lt), fun b e j hj => ?_⟩
    cases e
    refine ⟨?_, x12.free j⟩
    match j, hj with
    | 0, _ => rw [x12.cell (i := 0) rfl]; rfl
    | 1, _ => rw [x12.cell (i := 1) rfl]; rfl
  have hin0 : ∀ b, InD [⟨blk p1, n1, c1⟩, ⟨blk p2, n2, c2⟩] b → blk p1 = some b ∨ blk p2 = some b := fun b ⟨k, hk, e⟩ => by
    match k, hk with
    | 0, _ => exact .inl e
    | 1, _ => exact .inr e
  have hin7 : ∀ b, InD [(⟨some w.heap.size, 2, 2⟩ : D)] b → b = w.heap.size := fun b ⟨k, hk, e⟩ => by
    match k, hk with
    | 0, _ => exact (Option.some.inj e).symm
  have hlt0 : ∀ b, blk p1 = some b ∨ blk p2 = some b → b < w.heap.size := fun b h => h.elim (fun h => (b1 b h).1) (fun h => (b2 b h).1)
  obtain ⟨DS, hDS⟩ : ∃ DS : Nat → List D, DS = fun j => if j = 0 then [⟨blk p1, n1, c1⟩, ⟨blk p2, n2, c2⟩] else if j = 7 then [⟨some w.heap.size, 2, 2⟩] else [] := ⟨_, rfl⟩
  have d0 : DS 0 = [⟨blk p1, n1, c1⟩, ⟨blk p2, n2, c2⟩] := by rw [hDS]; rfl
  have d7 : DS 7 = [⟨some w.heap.size, 2, 2⟩] := by rw [hDS]; rfl
  have dn : ∀ j, j ≠ 0 → j ≠ 7 → DS j = [] := fun j a b => by rw [hDS]; simp only [if_neg a, if_neg b]
  have hin : ∀ j b, InD (DS j) b → (j = 0 ∧ (blk p1 = some b ∨ blk p2 = some b)) ∨ (j = 7 ∧ b = w.heap.size) := fun j b h => by
    by_cases a : j = 0
    · subst a; rw [d0] at h; exact .inl ⟨rfl, hin0 b h⟩
    · by_cases a' : j = 7
      · subst a'; rw [d7] at h; exact .inr ⟨rfl, hin7 b h⟩
      · rw [dn j a a'] at h
        obtain ⟨k, hk, _⟩ := h
        simp at hk
  obtain ⟨rs, hrs⟩ : ∃ rs : List NR, rs = [⟨⟨some w.heap.size, 2, 2⟩, [⟨blk p1, n1, c1⟩, ⟨blk p2, n2, c2⟩]⟩] := ⟨_, rfl⟩
  have hap : ApOk W2 rs DS := by
    refine ⟨fun j hj => ?_, fun k hk => ?_, fun k hk => ?_, fun j => ?_, fun j => ?_, fun j k hk => ?_, fun i j b hne' i1 i2 => ?_, fun j b h => ?_, fun r hr => ?_⟩
    · obtain ⟨a, b, c⟩ := putsV_at rs (fun _ => [])
      by_cases j0 : j = 0
      · subst j0; rw [a, d0, hrs]; rfl
      · by_cases j7 : j = 7
        · subst j7; rw [b, d7, hrs]; rfl
        · rw [c j j0 j7, dn j j0 j7]; rfl
    · rw [d0] at hk ⊢; exact hr0 k hk
    · rw [d7] at hk ⊢
      match k, hk with
      | 0, _ => exact hr7
    · intro a b x ha hb ea eb
      by_cases j0 : j = 0
      · subst j0; rw [d0] at ha hb ea eb
        match a, b, ha, hb with
        | 0, 0, _, _ => rfl
        | 1, 1, _, _ => rfl
        | 0, 1, _, _ => exact absurd eb (hne x ea)
        | 1, 0, _, _ => exact absurd ea (hne x eb)
      · by_cases j7 : j = 7
        · subst j7; rw [d7] at ha hb
          simp only [List.length_singleton] at ha hb
          omega
        · rw [dn j j0 j7] at ha; simp at ha
    · by_cases j0 : j = 0
      · subst j0; rw [d0]; simp
      · by_cases j7 : j = 7
        · subst j7; rw [d7]; simp
        · rw [dn j j0 j7]; simp
    · by_cases j0 : j = 0
      · subst j0; rw [d0] at hk ⊢
        match k, hk with
        | 0, _ => show n1 ≤ 100000; omega
        | 1, _ => show n2 ≤ 100000; omega
      · by_cases j7 : j = 7
        · subst j7; rw [d7] at hk ⊢
          match k, hk with
          | 0, _ => show (2 : Nat) ≤ 100000; omega
        · rw [dn j j0 j7] at hk; simp at hk
    · rcases hin i b i1 with ⟨rfl, u⟩ | ⟨rfl, u⟩ <;> rcases hin j b i2 with ⟨rfl, v⟩ | ⟨rfl, v⟩
      · exact hne' rfl
      · have := hlt0 b u; omega
      · have := hlt0 b v; omega
      · exact hne' rfl
    · have hs2 := g2.size
      rcases hin j b h with ⟨_, u⟩ | ⟨_, u⟩
      · have := hlt0 b u; omega
      · omega
    · rw [hrs] at hr
      obtain rfl := List.mem_singleton.1 hr
      refine ⟨rfl, .inr ⟨w.heap.size, 0, rfl, fun h => ?_, x12.lt, fun k hk => ?_⟩⟩
      · have := hlt0 _ (hin0 _ h); omega
      · match k, hk with
        | 0, _ => rw [show dg [(⟨blk p1, n1, c1⟩ : D), ⟨blk p2, n2, c2⟩] 0 = ⟨blk p1, n1, c1⟩ from rfl, ← e1]; exact x12.cell (i := 0) rfl
        | 1, _ => rw [show dg [(⟨blk p1, n1, c1⟩ : D), ⟨blk p2, n2, c2⟩] 1 = ⟨blk p2, n2, c2⟩ from rfl, ← e2]; exact x12.cell (i := 1) rfl
  have hq : SlQ W2 (some ⟨w.heap.size + 1, 0, none⟩) rs := fun k hk => by
    rw [hrs] at hk
    match k, hk with
    | 0, _ => exact ⟨_, 0, rfl, by rw [hrs]; exact x2.cell (i := 0) rfl⟩
  refine (apartNats_any (some ⟨w.heap.size + 1, 0, none⟩) 1 1 rs DS W2 (by rw [hrs]; rfl) hq hap (by omega)).mono ?_
  rintro e w' ⟨rfl, hb⟩
  refine ⟨rfl, hb.mono fun b ⟨j, _, h⟩ => ?_⟩
  rcases hin j b h with ⟨_, u | u⟩ | ⟨_, u⟩
  · exact .inl u
  · exact .inr (.inl u)
  · exact .inr (.inr u)
end Go.Proofs.YtiihghojllikmaaGreatDoor
