/- The walk of order: the library's sort at ranges, by their lower ends. -/
import Derived.Test.YtgcgclmfjlecaaaGreatRe
import Derived.Test.YtgcgclmfjlecaaaGreatRc
import Derived.Test.YtgcgclmfjlecaaaGreatSort

namespace Go.Proofs.YtgcgclmfjlecaaaGreat
open Go.RowKit Tnr Go.Sort Go.Shelf

theorem ltLo (x y : R) : ltOf (fun x y : R => Lib.compareInt x.1 y.1) x y = decide (x.1 < y.1) := by
  unfold ltOf Lib.compareInt
  by_cases h1 : x.1 < y.1
  · simp [h1]
  · by_cases h2 : y.1 < x.1 <;> simp [h1, h2]
theorem swoLo : SWO (ltOf fun x y : R => Lib.compareInt x.1 y.1) where
  irrefl x := by rw [ltLo]; simp
  trans x y z h1 h2 := by rw [ltLo] at *; simp at *; omega
  ntrans x y z h1 h2 := by rw [ltLo] at *; simp at *; omega

set_option maxHeartbeats 800000 in
theorem cmp_any (x y : R) (W : World) : Calls Tryz.prog 115 #[.agg #[.int .i64 x.1, .int .i64 x.2], .agg #[.int .i64 y.1, .int .i64 y.2]] W fun e w' => e = .returned (.int .i64 (Lib.compareInt x.1 y.1)) ∧ ∃ q os', w' = grow (W.drewN q) os' := by
  obtain ⟨x, x'⟩ := x
  obtain ⟨y, y'⟩ := y
  have HC : Hid (Lib.compareInt x y = if x < y then -1 else if y < x then 1 else 0) := by
    show Lib.compareInt x y = _
    unfold Lib.compareInt
    by_cases h1 : x < y
    · simp [h1]
    · by_cases h2 : y < x <;> simp [h1, h2]
  by_cases h1 : x < y
  · go_enter Tryz.func115, Tryz.ntmps115
    go_wp2
    go_ret
    exact ⟨by show Ending.returned (Value.int .i64 (-1)) = _; rw [HC.out, if_pos h1], 0, _, by rw [alloc_eq_grow, alloc_eq_grow, grow_grow]; rfl⟩
  · by_cases h2 : y < x
    · go_enter Tryz.func115, Tryz.ntmps115
      go_wp2
      go_ret
      exact ⟨by show Ending.returned (Value.int .i64 1) = _; rw [HC.out, if_neg (by omega), if_pos h2], 0, _, by rw [alloc_eq_grow, alloc_eq_grow, grow_grow]; rfl⟩
    · go_enter Tryz.func115, Tryz.ntmps115
      go_wp2
      go_ret
      exact ⟨by show Ending.returned (Value.int .i64 0) = _; rw [HC.out, if_neg (by omega), if_neg (by omega)], 0, _, by rw [alloc_eq_grow, alloc_eq_grow, grow_grow]; rfl⟩

set_option maxHeartbeats 1600000 in
set_option maxRecDepth 100000 in
theorem sort_any (blk cap : Nat) (d : Array R) (w : World) (hH : HoldsK encR 2 w blk 0 d) (hblk : blk < w.heap.size) (hsz : d.size < 4611686018427387904) :
    Calls Tryz.prog 114 #[.slice (some ⟨blk, 0, none⟩) d.size cap, .func (.func 115) #[] #[]] w fun e w' =>
      e = .returned (.tuple #[]) ∧ ∃ d' n os, PermIn 0 d.size d d' ∧ SortedIn (ltOf fun x y : R => Lib.compareInt x.1 y.1) 0 d.size d' ∧ w' = sortWorldK encR 2 w blk 0 n d' os := by
  have eg : ∀ args w, (callFunc 115 args).run Tryz.prog w = .ok (.enter 115 args) w := enters_of Tryz.func115 (by kernel_rfl) rfl
  have hcmp : CmpLays Tryz.prog 115 #[] encR 2 (fun x y : R => Lib.compareInt x.1 y.1) blk 0 d.size w := fun _ _ _ _ x y => cmp_any x y _
  have hR : RowK encR 2 w blk 0 d := ⟨fun _ => rfl, fun x v hv => by simp [encR] at hv; rcases hv with rfl | rfl <;> rfl, hH, hblk⟩
  have hlim : Lib.bitLen d.size < 4611686018427387904 := Nat.lt_of_le_of_lt (Lib.bitLen_le d.size 62 (by omega) (by omega)) (by omega)
  have hp := AnyQ.pdqsortCmpFunc_all Tryz.sortF 2 Tryz.isAgg41 Tryz.sizeOf41 encR (fun x y : R => Lib.compareInt x.1 y.1) 115 #[] swoLo blk 0 cap d w eg hcmp hR (d.size + 1) 0 d.size (Lib.bitLen d.size) d w (by omega) rfl (SWK.start hH) (Nat.zero_le _) (Nat.le_refl _) hsz hlim (Or.inl rfl)
  change Calls Tryz.prog 121 _ _ _ at hp
  have hl : Calls Tryz.prog 122 #[.int .u64 (d.size : Int)] w fun e w' => e = .returned (.int .i64 (Lib.bitLen d.size : Nat)) ∧ w' = w := by
    have h := Tryz.bits_Len (d.size : Int) w (by omega) (by omega)
    rwa [Int.toNat_natCast] at h
  have wr : IntKind.u64.wrap (d.size : Int) = d.size := by simp [IntKind.wrap, IntKind.bits, IntKind.signed]; omega
  have HS := Lib.hid (pdq_sorts (ltOf fun x y : R => Lib.compareInt x.1 y.1) swoLo d 0 d.size (Lib.bitLen d.size) true true (Nat.zero_le _) (Nat.le_refl _) (Or.inl rfl))
  obtain ⟨n, hn⟩ : ∃ n, n = d.size := ⟨_, rfl⟩
  obtain ⟨bl, hbl⟩ : ∃ bl, bl = Lib.bitLen d.size := ⟨_, rfl⟩
  obtain ⟨D, hD⟩ : ∃ D, D = pdq (ltOf fun x y : R => Lib.compareInt x.1 y.1) d 0 d.size (Lib.bitLen d.size) true true := ⟨_, rfl⟩
  rw [← hD] at hp HS
  rw [← hbl] at hp hl
  rw [← hn] at hp hl wr HS ⊢
  have hnI : (n : Int) < 4611686018427387904 := by omega
  clear hH hcmp hR hsz hlim hD hbl hn eg
  go_enter Tryz.func114, Tryz.ntmps114
  go_wp2_with (first | (go_at_call 122; refine hl.mono ?_; rintro e w' ⟨rfl, rfl⟩) | (go_at_call 121; refine hp.mono ?_; rintro e w' ⟨rfl, nn, os, rfl⟩))
  go_end0
  exact ⟨rfl, D, nn, os, HS.out.1, HS.out.2, rfl⟩

set_option maxHeartbeats 1600000 in
set_option maxRecDepth 100000 in
theorem sort_none (p : Option Addr) (cap : Nat) (fv : Value) (w : World) :
    Calls Tryz.prog 114 #[.slice p 0 cap, fv] w fun e w' => e = .returned (.tuple #[]) ∧ w' = w := by
  have hp := fun lim W => AnyF.pdqsortCmpFunc_none Tryz.sortF p cap lim fv W
  change ∀ lim W, Calls Tryz.prog 121 _ _ _ at hp
  have hl : ∀ W, Calls Tryz.prog 122 #[.int .u64 0] W fun e w' => e = .returned (.int .i64 (Lib.bitLen 0 : Nat)) ∧ w' = W := fun W => by
    have h := Tryz.bits_Len 0 W (by omega) (by omega)
    exact h
  go_enter Tryz.func114, Tryz.ntmps114
  go_wp2_with (first | (go_at_call 122; refine (hl _).mono ?_; rintro e w' ⟨rfl, rfl⟩) | (go_at_call 121; refine (hp _ _).mono ?_; rintro e w' ⟨rfl, rfl⟩))
  go_end0
  exact ⟨rfl, rfl⟩

theorem perm_of {l : List R} {d' : Array R} (h : PermIn 0 l.toArray.size l.toArray d') : l.Perm d'.toList := by
  obtain ⟨h1, _, h3⟩ := h
  rw [← h1] at h3
  rw [Array.extract_size] at h3
  have e : l.toArray.extract 0 d'.size = l.toArray := by rw [h1, Array.extract_size]
  rw [e] at h3
  exact h3.symm
theorem sorted_of {d : Array R} (h : SortedIn (ltOf fun x y : R => Lib.compareInt x.1 y.1) 0 d.size d) : Sorted d.toList := by
  unfold Sorted
  rw [List.pairwise_iff_getElem]
  intro i j hi hj hij
  have := h i j (Nat.zero_le _) hij (by simpa using hj)
  rw [ltLo, decide_eq_false_iff_not, getElem!_pos d i (by simpa using hi), getElem!_pos d j (by simpa using hj)] at this
  simp only [Array.getElem_toList]
  omega

def OrderPost (B : Nat) (v : Value) (l : List R) (w : World) (e : Ending) (w' : World) : Prop :=
  e = .returned (.tuple #[]) ∧ ∃ d, l.Perm d ∧ Sorted d ∧ OwnR w' B v d ∧ w.grownBy w' v.ownBlock

set_option maxHeartbeats 1600000 in
set_option maxRecDepth 100000 in
theorem order_any (p : Option Addr) (c B : Nat) (l : List R) (w : World) (ho : OwnR w B (.slice p l.length c) l) (hl : l.length ≤ 1000000000) :
    Calls Tryz.prog 95 #[.slice p l.length c] w (OrderPost B (.slice p l.length c) l w) := by
  by_cases h0 : l = []
  · subst h0
    have hs := fun fv W => sort_none p c fv W
    have HO := Lib.hid ho
    clear ho
    go_enter Tryz.func95, Tryz.ntmps95
    go_wp2_with (go_at_call 114; refine (hs _ _).mono ?_; rintro e w' ⟨rfl, rfl⟩)
    go_end0
    exact ⟨rfl, [], List.Perm.nil, List.Pairwise.nil, HO.out, World.grownBy.refl _ _⟩
  · have h' := ho
    rcases ho.2 with ⟨e1, hn⟩ | ⟨g, cap, cur, e1, hb, hg, hnc, hcm, hcs, htake⟩
    · exact absurd (List.eq_nil_of_length_eq_zero hn) h0
    simp only [Value.slice.injEq, true_and] at e1
    obtain ⟨rfl, rfl⟩ := e1
    have hs := sort_any g c l.toArray w (holdsK_of_block hg htake) (lt_of_block hg) (by simp; omega)
    have HE := Lib.hid (fun (d : List R) (n : Nat) (os : Array Obj) (hd : d.length = l.length) => ownR_sorted (n := n) (os := os) (d := d) hd hb hg hnc hcm hcs)
    rw [List.size_toArray] at hs
    clear h' hb hg hnc hcm hcs htake h0 ho
    obtain ⟨m, hm⟩ : ∃ m, m = l.length := ⟨_, rfl⟩
    rw [← hm] at hs ⊢
    have HM := Lib.hid hm
    clear hm hl
    go_enter Tryz.func95, Tryz.ntmps95
    go_wp2_with (go_at_call 114; refine hs.mono ?_; rintro e w' ⟨rfl, d', n, os, hp, hss, rfl⟩)
    go_end0
    have e2 : d'.size = m := by rw [hp.1, List.size_toArray, HM.out]
    have hpm : l.Perm d'.toList := perm_of (by rw [List.size_toArray, ← HM.out]; exact hp)
    refine ⟨rfl, d'.toList, hpm, sorted_of (by rw [e2]; exact hss), ?_, grownBy_sortedK _⟩
    have := HE.out d'.toList n os hpm.length_eq.symm
    rw [← HM.out] at this
    exact this
end Go.Proofs.YtgcgclmfjlecaaaGreat
