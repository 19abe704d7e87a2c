/- The walks of the document's Right, Many, Least, Meet, Not. -/
import Derived.Test.YtkcjfgkfhjanpaaGreatSzd
namespace Go.Proofs.YtkcjfgkfhjanpaaGreat
open Go.RowKit Tnr

theorem rt_mem : ∀ {l : List R} {a : Int}, RF a l → -2 ≤ a → ∀ r ∈ l, 0 ≤ r.1 ∧ r.1 ≤ r.2 ∧ r.2 ≤ 1114111
  | [], _, _, _, r, hr => by simp at hr
  | x :: l, a, h, ha, r, hr => by
    obtain ⟨h1, h2, h3, h4⟩ := h
    rcases List.mem_cons.1 hr with e | e
    · subst e; exact ⟨by omega, h2, h3⟩
    · exact rt_mem h4 (by omega) r e

set_option maxHeartbeats 1600000 in
set_option maxRecDepth 100000 in
theorem rmeet_any (p q : Option Addr) (c e m n : Nat) (a b r : List R) (w : World) (hr : r = mt a b) (hm : m = a.length) (hn : n = b.length) (hp : SlR w p a) (hq : SlR w q b) (hl : a.length + b.length ≤ 10000) :
    Calls Tryz.prog 30 #[.slice p m c, .slice q n e] w (WherePost r w) := by
  have HW := Lib.hid (where_any (some ⟨w.heap.size, 0, none⟩) 2 2 [(p, c, a), (q, e, b)] 2 2 (w.alloc (.cells #[.slice p m c, .slice q n e] 23)) r rfl (sls_new (fun x hx => by simp only [List.mem_cons, List.not_mem_nil, or_false] at hx; rcases hx with rfl | rfl; exact hp; exact hq) (by subst hm; subst hn; rfl)) (by simp [flat]; omega) (by omega) (by omega) (by omega) (by rw [hr]; exact mt_right _ _) (fun d h0 h1 => by
    rw [hr, mt_has]
    show _ ↔ 2 ≤ many [a, b] d ∧ many [a, b] d ≤ 2
    rw [many_cons, many_cons, many_nil]
    by_cases h2 : Has a d <;> by_cases h3 : Has b d <;> simp [h2, h3]))
  clear hr hp hl hm hn hq
  go_enter Tryz.func30, Tryz.ntmps30
  go_wp2_with (go_at_call 44; refine HW.out.mono ?_; rintro e w5 ⟨q5, d5, rfl, ho5, hb5⟩; have HO5 := Lib.hid ho5; have HB5 := Lib.hid hb5; clear ho5 hb5)
  go_ret
  exact where_back (bl_alloc _ _) ⟨q5, d5, rfl, HO5.out, HB5.out⟩

set_option maxHeartbeats 1600000 in
set_option maxRecDepth 100000 in
theorem rleast_any (p : Option Addr) (c m : Nat) (l : List R) (w : World) (hm : m = l.length) (hp : SlR w p l) (hl : l.length ≤ 10000) :
    Calls Tryz.prog 29 #[.slice p m c] w fun e w' => e = .returned (.tuple #[.int .i64 (lst l).1, .bool (lst l).2]) ∧ Below w.heap.size w w' := by
  have HJ := Lib.hid (rjoin_one p c m l (cn l) w rfl hm hp hl)
  have hcl := cn_length l
  have hls : lst l = match cn l with | [] => (0, false) | r :: _ => (r.1, true) := rfl
  generalize cn l = d at *
  generalize lst l = s at *
  subst hls
  clear hm hp
  go_enter Tryz.func29, Tryz.ntmps29
  cases d with
  | nil =>
    go_wp2_with (go_at_call 43; refine HJ.out.mono ?_; rintro e w5 ⟨q5, d5, rfl, ho5, hb5⟩; have HB5 := Lib.hid hb5; clear ho5 hb5)
    refine bodyPost_ret (v := .tuple #[.int .i64 0, .bool false]) (by simp [results, Tryz.results29, go_sem]) rfl ?_
    exact ⟨rfl, HB5.out⟩
  | cons x d =>
    obtain ⟨n, hn⟩ : ∃ n, n = d.length := ⟨_, rfl⟩
    have hnI : (n : Int) ≤ 10000 := by rw [List.length_cons] at hcl; omega
    have HJ2 : Hid (Calls Tryz.prog 43 #[.slice (some ⟨w.heap.size, 0, none⟩) 1 1] (w.alloc (.cells #[.slice p m c] 23)) fun e w' => ∃ b o c5, e = .returned (.slice (some ⟨b, o, none⟩) (n + 1) c5) ∧ w'.cell? ⟨b, o, none⟩ = some (.int .i64 x.1) ∧ Below w.heap.size w w') := by
      refine HJ.out.mono ?_
      rintro e w5 ⟨q5, d5, rfl, ho5, hb5⟩
      obtain ⟨b, o, rfl, h1, _⟩ := slr_at (tells_sl ho5) (show 0 < (x :: d).length by simp)
      refine ⟨b, o, d5, by rw [List.length_cons, hn], ?_, hb5⟩
      simpa [gr] using h1
    obtain ⟨x1, hx1⟩ : ∃ y, y = x.1 := ⟨_, rfl⟩
    rw [← hx1] at HJ2 ⊢
    clear HJ hcl hn hx1
    go_wp2_with (go_at_call 43; refine HJ2.out.mono ?_; rintro e w5 ⟨b, o, c5, rfl, hc5, hb5⟩; have HB5 := Lib.hid hb5; clear hb5)
    refine bodyPost_ret (v := .tuple #[.int .i64 x1, .bool true]) (by simp [results, Tryz.results29, go_sem]) rfl ?_
    exact ⟨rfl, HB5.out⟩

end Go.Proofs.YtkcjfgkfhjanpaaGreat
