/- Short lists and asks that are made and joined, and then read: for the law ScanSigns. -/
import Derived.Test.YtnedbeomflllcaaYs
namespace Go.Proofs.Ytnedbeomflllcaa
open Go.RowKit Tnd

theorem sli_block {w : World} {b : Nat} {cs : Array Value} {T : TypeId} {fz : Nat × Nat} (l : List Int) (h : w.heap[b]? = some (.cells cs T fz)) (hcs : cs = (l.map (Value.int .i64)).toArray) : SlI w (some ⟨b, 0, none⟩) l := by
  refine .inr ⟨b, 0, rfl, fun i hi => ?_⟩
  rw [Nat.zero_add]
  have hc : cs[i]? = some (.int .i64 (gi l i)) := by
    subst hcs
    simp [gi, List.getD_eq_getElem?_getD, List.getElem?_eq_getElem hi]
  simp [World.cell?, h, hc]
def encA (l : List (Int × ByteArray)) : List Value := l.flatMap fun a => [.int .i64 a.1, .string a.2]
def RT (w : World) (e : Ending) (w' : World) : Prop := e = .returned (.bool true) ∧ Below w.heap.size w w'
def strs : List ByteArray := [⟨#[117, 123, 48, 125]⟩, ⟨#[117, 123, 125]⟩, ⟨#[117, 123, 49, 48, 70, 70, 70, 70, 125]⟩, ⟨#[117, 123, 49, 49, 48, 48, 48, 48, 125]⟩, ⟨#[117, 123, 48, 48, 48, 48, 48, 48, 48, 48, 48, 48, 48, 48, 48, 48, 48, 48, 48, 48, 48, 48, 48, 52, 49, 125]⟩, ⟨#[117, 123, 102, 70, 102, 70, 102, 70, 102, 70, 102, 70, 102, 70, 102, 70, 102, 70, 102, 70, 102, 125]⟩, ⟨#[117, 68, 56, 48, 48, 92, 117, 68, 67, 48, 48]⟩, ⟨#[117, 68, 66, 70, 70, 92, 117, 68, 70, 70, 70]⟩, ⟨#[117, 68, 67, 48, 48, 92, 117, 68, 56, 48, 48]⟩, ⟨#[117, 68, 55, 70, 70, 92, 117, 68, 67, 48, 48]⟩, ⟨#[117, 68, 56, 48, 48, 92, 117, 69, 48, 48, 48]⟩, ⟨#[117, 68, 56, 48, 48, 92, 117, 123, 68, 67, 48, 48, 125]⟩, ⟨#[117, 68, 56, 48, 48, 92, 117, 68, 67, 48]⟩, ⟨#[117, 68, 56, 48, 48, 92, 120, 68, 67, 48, 48]⟩, ⟨#[117, 68, 56, 51, 68, 92, 117, 68, 69, 48, 48, 92, 117, 68, 69, 48, 48]⟩, ⟨#[117, 48, 48, 101, 57]⟩, ⟨#[117, 49, 50]⟩, ⟨#[120, 52, 103]⟩, ⟨#[120, 52, 49]⟩, ⟨#[99]⟩, ⟨#[99, 90]⟩, ⟨#[99, 49]⟩, ⟨#[48]⟩, ⟨#[48, 56]⟩, ⟨#[110]⟩, ⟨#[78]⟩, ⟨#[47]⟩, ⟨#[45]⟩, ⟨#[98]⟩, ⟨#[100]⟩, ⟨#[107, 60, 97, 62]⟩, ⟨#[48, 49, 50, 51, 52, 53, 54, 55, 56, 57, 48, 49, 50, 51, 52, 53, 54, 55, 56, 57, 48, 49, 50, 51, 52, 53, 54, 55, 56, 57]⟩, ⟨#[97, 95, 36, 57, 90, 62]⟩, ⟨#[57, 97, 62]⟩, ⟨#[97, 45, 98, 62]⟩, ⟨#[62]⟩]
theorem ownI_down {w : World} {B B' : Nat} {v : Value} {l : List Int} (h : OwnI w B v l) (hB : B' ≤ B) : OwnI w B' v l :=
  ⟨h.1, h.2.imp id (fun ⟨g, cap, cur, e, hb, r⟩ => ⟨g, cap, cur, e, Nat.le_trans hB hb, r⟩)⟩
theorem bl_keep {w0 W W' : World} {v : Value} {l : List Int} (hb : Below w0.heap.size w0 W) (ho : OwnI W w0.heap.size v l) (hg : W.grownBy W' v.ownBlock) : Below w0.heap.size w0 W' :=
  hb.grown hg hb.size (fun k hk => (World.ownsRow.lt ho k hk).1)
theorem size_alloc (w : World) (o : Obj) : (w.alloc o).heap.size = w.heap.size + 1 := by show (w.heap.push _).size = _; simp
theorem own_fresh (w : World) (B : Nat) (hB : B ≤ w.heap.size) : OwnI (w.alloc (.cells #[] 3)) B (.slice (some ⟨w.heap.size, 0, none⟩) 0 0) [] := ownI_down (own_empty w) hB
theorem own_fresh1 (w : World) (o : Obj) (B : Nat) (hB : B ≤ w.heap.size) : OwnI ((w.alloc o).alloc (.cells #[] 3)) B (.slice (some ⟨w.heap.size + 1, 0, none⟩) 0 0) [] := by
  have h := own_fresh (w.alloc o) B (by rw [size_alloc]; omega)
  rw [size_alloc] at h; exact h
theorem heap_two (w : World) (o o2 : Obj) : ((w.alloc o).alloc o2).heap[w.heap.size + 1]? = some o2 ∧ ((w.alloc o).alloc o2).heap[w.heap.size]? = some o := by
  have h1 := (MapKept.heap_alloc (w.alloc o) o2).1
  rw [size_alloc] at h1
  exact ⟨h1, by rw [(MapKept.heap_alloc (w.alloc o) o2).2 w.heap.size (by rw [size_alloc]; omega)]; exact (MapKept.heap_alloc w o).1⟩
/-- a list of one number just made, kept where another block grows. -/
theorem one_kept {w w' : World} {b g : Nat} {cs : Array Value} {T : TypeId} {fz : Nat × Nat} (l : List Int) (h : w.heap[b]? = some (.cells cs T fz)) (hcs : cs = (l.map (Value.int .i64)).toArray) (hg : w.grownBy w' (some g)) (hne : b ≠ g) : SlI w' (some ⟨b, 0, none⟩) l :=
  sli_block l (by rw [hg.block b (lt_of_block h) (fun e => hne (Option.some.inj e))]; exact h) hcs

/-- an append to a list of the call's own, in a drawn region, guarded or not. -/
theorem step_join {w : World} {ops : Array Oper} {o : Oper} {a : Act} {K : Act → World → Prop} {Q : Exit → Act → World → Prop} {E : Prop} (hw : Region.wanted o (yielded ops a.tmps) = true) (s x : Operand)
    (hop : o.op = .call { callee := .builtin .append, args := #[s, x], argTypes := #[22, 22] }) {B cq : Nat} {v : Value} {N A : List Int} {q : Option Addr} (hs : a.eval s = v) (hx : a.eval x = .slice q A.length cq)
    (hO : OwnI w B v N) (hA : SlI w q A) (hq : q = none → cq = 0) (hl : N.length + A.length ≤ 1000000) (hB : B ≤ w.heap.size) {M : List Int} (hM : M = N ++ A)
    (h : ∀ q' c' w', OwnI w' B (.slice q' M.length c') M → w.grownBy w' v.ownBlock → K (a.put o.dst (.slice q' M.length c')) w') : if Region.wanted o (yielded ops a.tmps) = true then Oper.wp Try.prog o a w K Q else E := by
  obtain ⟨v', w', h1, h2, h3⟩ := run_joinI (cq := cq) o.type hO hA hq hl hB
  obtain ⟨q2, c2, rfl, _⟩ := ownI_form h2
  subst hM
  rw [if_pos hw]
  unfold Oper.wp
  simp only [execOp, hop, resolve, invoke, builtin, Sem.run_bind, Sem.run_pure, Result.andThen_ok, List.map_toArray, List.map_cons, List.map_nil, hs, hx, h1]
  exact h q2 c2 w' h2 h3

/-- a word that the walk doesn't know, so it stands. -/
def Stop (p : Prop) : Prop := p
theorem Stop.on {p : Prop} (h : p) : Stop p := h
/-- an append in a plain region; the walk stands behind it. -/
theorem wpList_append_stop {P : Program} {w w' : World} {ops : Array Oper} {rest : List Oper} {o : Oper} {a : Act} {Q : Exit → Act → World → Prop} (hw : Region.wanted o (yielded ops a.tmps) = true) (s x : Operand) (t : TypeId)
    (ho : o.op = .call { callee := .builtin .append, args := #[s, x], argTypes := #[t, t] }) (v u v' : Value) (hs : a.eval s = v) (hx : a.eval x = u)
    (hrun : (Builtin.append_ #[t, t] o.type #[v, u]).run P w = .ok v' w') (h : Stop (wpList P ops Q rest (a.put o.dst v') w')) : wpList P ops Q (o :: rest) a w :=
  wpList_append_run hw s x t ho v u v' hs hx hrun h
theorem encA_length : ∀ l : List (Int × ByteArray), (encA l).length = l.length * 2
  | [] => rfl
  | a :: l => by
    have ih := encA_length l
    show (encA l).length + 1 + 1 = (l.length + 1) * 2
    omega
theorem encA_append (l m : List (Int × ByteArray)) : encA (l ++ m) = encA l ++ encA m := by unfold encA; rw [List.flatMap_append]
theorem encA_one (l : List (Int × ByteArray)) : ∀ u ∈ encA l, u.oneCell' = true := by
  intro u hu
  unfold encA at hu
  rw [List.mem_flatMap] at hu
  obtain ⟨a, _, h⟩ := hu
  simp only [List.mem_cons, List.not_mem_nil, or_false] at h
  rcases h with rfl | rfl <;> rfl
theorem add0 (b j : Nat) : (⟨b, 0, none⟩ : Addr).add j = ⟨b, 0 + j, none⟩ := by simp [Addr.add]; intro h; omega
end Go.Proofs.Ytnedbeomflllcaa
