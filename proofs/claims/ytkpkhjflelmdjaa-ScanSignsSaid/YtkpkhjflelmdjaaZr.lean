/- Short lists and asks that are made and joined, and then read: for the law ScanSigns. -/
import Derived.Test.YtkpkhjflelmdjaaZp
namespace Go.Proofs.Ytkpkhjflelmdjaa
open Go.RowKit Tnd

theorem sli_block {w : World} {b : Nat} {cs : Array Value} {T : TypeId} {fz : Nat × Nat} (l : List Int) (h : w.heap[b]? = some (.cells cs T fz)) (hcs : cs = (l.map (Value.int .i64)).toArray) : SlI w (some ⟨b, 0, none⟩) l := by
  refine .inr ⟨b, 0, rfl, fun i hi => ?_⟩
  rw [Nat.zero_add]
  have hc : cs[i]? = some (.int .i64 (gi l i)) := by
    subst hcs
    simp [gi, List.getD_eq_getElem?_getD, List.getElem?_eq_getElem hi]
  simp [World.cell?, h, hc]
def encA (l : List (Int × ByteArray)) : List Value := l.flatMap fun a => [.int .i64 a.1, .string a.2]
theorem encA_at : ∀ (l : List (Int × ByteArray)) (i : Nat), i < l.length → (encA l)[i * 2]? = some (.int .i64 (ga l i).1) ∧ (encA l)[i * 2 + 1]? = some (.string (ga l i).2)
  | [], i, h => by simp at h
  | a :: l, 0, _ => ⟨rfl, rfl⟩
  | a :: l, i + 1, h => by
    have ih := encA_at l i (by simpa using h)
    have e : encA (a :: l) = .int .i64 a.1 :: .string a.2 :: encA l := rfl
    rw [e, show (i + 1) * 2 = i * 2 + 1 + 1 by omega, show i * 2 + 1 + 1 + 1 = (i * 2 + 1) + 1 + 1 by omega]
    exact ih
theorem sla_block {w : World} {b : Nat} {cs : Array Value} {T : TypeId} {fz : Nat × Nat} (l : List (Int × ByteArray)) (h : w.heap[b]? = some (.cells cs T fz)) (hcs : cs = (encA l).toArray) : SlA w (some ⟨b, 0, none⟩) l := by
  refine .inr ⟨b, 0, rfl, fun i hi => ?_⟩
  obtain ⟨h1, h2⟩ := encA_at l i hi
  rw [Nat.zero_add]
  subst hcs
  constructor
  · simp [World.cell?, h, h1]
  · simp [World.cell?, h, h2]
theorem SlA.below {w w' : World} {q : Option Addr} {l : List (Int × ByteArray)} (h : SlA w q l) (hb : Below w.heap.size w w') : SlA w' q l := by
  rcases h with h | ⟨b, off, h1, h2⟩
  · exact .inl h
  · exact .inr ⟨b, off, h1, fun i hi => ⟨by rw [hb.cell (World.block_lt_of_cell? w _ (h2 i hi).1)]; exact (h2 i hi).1, by rw [hb.cell (World.block_lt_of_cell? w _ (h2 i hi).2)]; exact (h2 i hi).2⟩⟩
/-- asks that may be asked: their texts are short. -/
def Ok (l : List (Int × ByteArray)) : Prop := l.length ≤ 1000 ∧ ∀ i, i < l.length → (ga l i).2.size ≤ 1000
def RT (w : World) (e : Ending) (w' : World) : Prop := e = .returned (.bool true) ∧ Below w.heap.size w w'
theorem reads_q {w : World} {q qa : Option Addr} (l : List Int) (asks : List (Int × ByteArray)) (n c na ca : Nat) (e1 : l.length = n) (e2 : asks.length = na) (hok : Ok asks) (hs : SlI w q l) (hq : q = none → c = 0) (hc : n ≤ c) (hcm : c ≤ 9223372036854775807) (ha : SlA w qa asks) (hca : na ≤ ca) (ham : ca ≤ 9223372036854775807) :
    Calls Try.prog 3 #[.slice q n c, .slice qa na ca] w (RT w) := by
  subst e1 e2
  exact reads_true q l c qa asks ca w hs hq hc hcm ha hca ham (fun i hi => by have := hok.2 i hi; omega)
def allA : List (Int × ByteArray) := [(4, noB), (5, noB), (3, noB), (0, noB), (4, noB)]
def twoA : List (Int × ByteArray) := [(5, noB), (0, noB)]
theorem ok_all : Ok allA := by unfold Ok; decide
theorem ok_two : Ok twoA := by unfold Ok; decide
def oneA : List (Int × ByteArray) := [(0, noB)]
def sixA : List (Int × ByteArray) := oneA ++ allA
theorem ok_six : Ok sixA := by unfold Ok; decide
def endA : List (Int × ByteArray) := [(1, ⟨#[97, 98]⟩), (1, ⟨#[99, 100]⟩), (2, ⟨#[120, 99]⟩), (1, noB), (6, noB)]
theorem ok_end : Ok endA := by unfold Ok; decide
/-- a list just made, and asks that lie there. -/
theorem reads_new {w : World} (l : List Int) (asks : List (Int × ByteArray)) {n c na ca : Nat} {qa : Option Addr} {cs : Array Value} (e1 : l.length = n) (e2 : asks.length = na) (hok : Ok asks) (hcs : cs = (l.map (Value.int .i64)).toArray) (hc : n ≤ c) (hcm : c ≤ 9223372036854775807) (ha : SlA w qa asks) (hca : na ≤ ca) (ham : ca ≤ 9223372036854775807) :
    Calls Try.prog 3 #[.slice (some ⟨w.heap.size, 0, none⟩) n c, .slice qa na ca] (w.alloc (.cells cs 3)) (fun e w' => e = .returned (.bool true) ∧ Below w.heap.size w w') :=
  (reads_q l asks n c na ca e1 e2 hok (sli_block l (MapKept.heap_alloc w _).1 hcs) (fun h => by cases h) hc hcm (ha.below (bl_alloc w _)) hca ham).mono (fun e w' h => ⟨h.1, bl_trans (bl_alloc w _) h.2⟩)
/-- a list just made, and asks just made. -/
theorem reads_new2 {w : World} (l : List Int) (asks : List (Int × ByteArray)) {n c na ca : Nat} {cs cs2 : Array Value} (e1 : l.length = n) (e2 : asks.length = na) (hok : Ok asks) (hcs : cs = (l.map (Value.int .i64)).toArray) (hcs2 : cs2 = (encA asks).toArray) (hc : n ≤ c) (hcm : c ≤ 9223372036854775807) (hca : na ≤ ca) (ham : ca ≤ 9223372036854775807) :
    Calls Try.prog 3 #[.slice (some ⟨w.heap.size, 0, none⟩) n c, .slice (some ⟨w.heap.size + 1, 0, none⟩) na ca] ((w.alloc (.cells cs 3)).alloc (.cells cs2 33)) (fun e w' => e = .returned (.bool true) ∧ Below w.heap.size w w') := by
  have hz : (w.alloc (.cells cs 3)).heap.size = w.heap.size + 1 := by show (w.heap.push _).size = _; simp
  have h1 := (MapKept.heap_alloc (w.alloc (.cells cs 3)) (.cells cs2 33)).1
  rw [hz] at h1
  exact (reads_q l asks n c na ca e1 e2 hok ((sli_block l (MapKept.heap_alloc w _).1 hcs).below (bl_alloc _ _)) (fun h => by cases h) hc hcm (sla_block asks h1 hcs2) hca ham).mono (fun e w' h => ⟨h.1, bl_trans (bl_trans (bl_alloc w _) (bl_alloc _ _)) h.2⟩)

def strs : List ByteArray := [⟨#[117, 123, 48, 125]⟩, ⟨#[117, 123, 125]⟩, ⟨#[117, 123, 49, 48, 70, 70, 70, 70, 125]⟩, ⟨#[117, 123, 49, 49, 48, 48, 48, 48, 125]⟩, ⟨#[117, 123, 48, 48, 48, 48, 48, 48, 48, 48, 48, 48, 48, 48, 48, 48, 48, 48, 48, 48, 48, 48, 48, 52, 49, 125]⟩, ⟨#[117, 123, 102, 70, 102, 70, 102, 70, 102, 70, 102, 70, 102, 70, 102, 70, 102, 70, 102, 70, 102, 125]⟩, ⟨#[117, 68, 56, 48, 48, 92, 117, 68, 67, 48, 48]⟩, ⟨#[117, 68, 66, 70, 70, 92, 117, 68, 70, 70, 70]⟩, ⟨#[117, 68, 67, 48, 48, 92, 117, 68, 56, 48, 48]⟩, ⟨#[117, 68, 55, 70, 70, 92, 117, 68, 67, 48, 48]⟩, ⟨#[117, 68, 56, 48, 48, 92, 117, 69, 48, 48, 48]⟩, ⟨#[117, 68, 56, 48, 48, 92, 117, 123, 68, 67, 48, 48, 125]⟩, ⟨#[117, 68, 56, 48, 48, 92, 117, 68, 67, 48]⟩, ⟨#[117, 68, 56, 48, 48, 92, 120, 68, 67, 48, 48]⟩, ⟨#[117, 68, 56, 51, 68, 92, 117, 68, 69, 48, 48, 92, 117, 68, 69, 48, 48]⟩, ⟨#[117, 48, 48, 101, 57]⟩, ⟨#[117, 49, 50]⟩, ⟨#[120, 52, 103]⟩, ⟨#[120, 52, 49]⟩, ⟨#[99]⟩, ⟨#[99, 90]⟩, ⟨#[99, 49]⟩, ⟨#[48]⟩, ⟨#[48, 56]⟩, ⟨#[110]⟩, ⟨#[78]⟩, ⟨#[47]⟩, ⟨#[45]⟩, ⟨#[98]⟩, ⟨#[100]⟩, ⟨#[107, 60, 97, 62]⟩, ⟨#[48, 49, 50, 51, 52, 53, 54, 55, 56, 57, 48, 49, 50, 51, 52, 53, 54, 55, 56, 57, 48, 49, 50, 51, 52, 53, 54, 55, 56, 57]⟩, ⟨#[97, 95, 36, 57, 90, 62]⟩, ⟨#[57, 97, 62]⟩, ⟨#[97, 45, 98, 62]⟩, ⟨#[62]⟩]
def gs (i : Nat) : ByteArray := strs.getD i noB
theorem strs_size : ∀ i, i < 36 → (gs i).size ≤ 40 := by unfold gs; decide
/-- what lies ready in the second loop. -/
def KS (w : World) (b3 : Nat) (wr : World) : Prop := SlA wr (some ⟨w.heap.size, 0, none⟩) allA ∧ Below w.heap.size w wr ∧ ∀ i, i < 36 → wr.cell? ⟨b3, i, none⟩ = some (.string (gs i))
theorem KS.below {w wr wr' : World} {b3 : Nat} (h : KS w b3 wr) (hb : Below wr.heap.size wr wr') : KS w b3 wr' :=
  ⟨h.1.below hb, bl_trans h.2.1 hb, fun i hi => by rw [hb.cell (World.block_lt_of_cell? wr _ (h.2.2 i hi))]; exact h.2.2 i hi⟩
theorem strs_cells {w : World} {b : Nat} {cs : Array Value} {T : TypeId} {fz : Nat × Nat} (h : w.heap[b]? = some (.cells cs T fz)) (hcs : cs = (strs.map Value.string).toArray) (i : Nat) (hi : i < 36) : w.cell? ⟨b, i, none⟩ = some (.string (gs i)) := by
  have hl : strs.length = 36 := rfl
  have hc : cs[i]? = some (.string (gs i)) := by
    subst hcs
    simp [gs, List.getD_eq_getElem?_getD, List.getElem?_eq_getElem (show i < strs.length by omega)]
  simp [World.cell?, h, hc]

theorem ownI_down {w : World} {B B' : Nat} {v : Value} {l : List Int} (h : OwnI w B v l) (hB : B' ≤ B) : OwnI w B' v l :=
  ⟨h.1, h.2.imp id (fun ⟨g, cap, cur, e, hb, r⟩ => ⟨g, cap, cur, e, Nat.le_trans hB hb, r⟩)⟩
theorem bl_keep {w0 W W' : World} {v : Value} {l : List Int} (hb : Below w0.heap.size w0 W) (ho : OwnI W w0.heap.size v l) (hg : W.grownBy W' v.ownBlock) : Below w0.heap.size w0 W' :=
  hb.grown hg hb.size (fun k hk => (World.ownsRow.lt ho k hk).1)
theorem size_alloc (w : World) (o : Obj) : (w.alloc o).heap.size = w.heap.size + 1 := by show (w.heap.push _).size = _; simp
theorem own_fresh (w : World) (B : Nat) (hB : B ≤ w.heap.size) : OwnI (w.alloc (.cells #[] 3)) B (.slice (some ⟨w.heap.size, 0, none⟩) 0 0) [] := ownI_down (own_empty w) hB
theorem own_fresh1 (w : World) (o : Obj) (B : Nat) (hB : B ≤ w.heap.size) : OwnI ((w.alloc o).alloc (.cells #[] 3)) B (.slice (some ⟨w.heap.size + 1, 0, none⟩) 0 0) [] := by
  have h := own_fresh (w.alloc o) B (by rw [size_alloc]; omega)
  rw [size_alloc] at h; exact h
theorem heap_two (w : World) (o o2 : Obj) : ((w.alloc o).alloc o2).heap[w.heap.size + 1]? = some o2 ∧ ((w.alloc o).alloc o2).heap[w.heap.size]? = some o := by
  have h1 := (MapKept.heap_alloc (w.alloc o) o2).1
  rw [size_alloc] at h1
  exact ⟨h1, by rw [(MapKept.heap_alloc (w.alloc o) o2).2 w.heap.size (by rw [size_alloc]; omega)]; exact (MapKept.heap_alloc w o).1⟩
/-- a list of one number just made, kept where another block grows. -/
theorem one_kept {w w' : World} {b g : Nat} {cs : Array Value} {T : TypeId} {fz : Nat × Nat} (l : List Int) (h : w.heap[b]? = some (.cells cs T fz)) (hcs : cs = (l.map (Value.int .i64)).toArray) (hg : w.grownBy w' (some g)) (hne : b ≠ g) : SlI w' (some ⟨b, 0, none⟩) l :=
  sli_block l (by rw [hg.block b (lt_of_block h) (fun e => hne (Option.some.inj e))]; exact h) hcs

/-- an append to a list of the call's own, in a drawn region, guarded or not. -/
theorem step_join {w : World} {ops : Array Oper} {o : Oper} {a : Act} {K : Act → World → Prop} {Q : Exit → Act → World → Prop} {E : Prop} (hw : Region.wanted o (yielded ops a.tmps) = true) (s x : Operand)
    (hop : o.op = .call { callee := .builtin .append, args := #[s, x], argTypes := #[22, 22] }) {B cq : Nat} {v : Value} {N A : List Int} {q : Option Addr} (hs : a.eval s = v) (hx : a.eval x = .slice q A.length cq)
    (hO : OwnI w B v N) (hA : SlI w q A) (hq : q = none → cq = 0) (hl : N.length + A.length ≤ 1000000) (hB : B ≤ w.heap.size) {M : List Int} (hM : M = N ++ A)
    (h : ∀ q' c' w', OwnI w' B (.slice q' M.length c') M → w.grownBy w' v.ownBlock → K (a.put o.dst (.slice q' M.length c')) w') : if Region.wanted o (yielded ops a.tmps) = true then Oper.wp Try.prog o a w K Q else E := by
  obtain ⟨v', w', h1, h2, h3⟩ := run_joinI (cq := cq) o.type hO hA hq hl hB
  obtain ⟨q2, c2, rfl, _⟩ := ownI_form h2
  subst hM
  rw [if_pos hw]
  unfold Oper.wp
  simp only [execOp, hop, resolve, invoke, builtin, Sem.run_bind, Sem.run_pure, Result.andThen_ok, List.map_toArray, List.map_cons, List.map_nil, hs, hx, h1]
  exact h q2 c2 w' h2 h3

/-- a word that the walk doesn't know, so it stands. -/
def Stop (p : Prop) : Prop := p
theorem Stop.on {p : Prop} (h : p) : Stop p := h
/-- an append in a plain region; the walk stands behind it. -/
theorem wpList_append_stop {P : Program} {w w' : World} {ops : Array Oper} {rest : List Oper} {o : Oper} {a : Act} {Q : Exit → Act → World → Prop} (hw : Region.wanted o (yielded ops a.tmps) = true) (s x : Operand) (t : TypeId)
    (ho : o.op = .call { callee := .builtin .append, args := #[s, x], argTypes := #[t, t] }) (v u v' : Value) (hs : a.eval s = v) (hx : a.eval x = u)
    (hrun : (Builtin.append_ #[t, t] o.type #[v, u]).run P w = .ok v' w') (h : Stop (wpList P ops Q rest (a.put o.dst v') w')) : wpList P ops Q (o :: rest) a w :=
  wpList_append_run hw s x t ho v u v' hs hx hrun h
/-- a list of asks of the call's own. -/
def OwnA (w : World) (B : Nat) (v : Value) (l : List (Int × ByteArray)) : Prop := w.ownsRow B 33 2 v l.length (encA l)
theorem encA_length : ∀ l : List (Int × ByteArray), (encA l).length = l.length * 2
  | [] => rfl
  | a :: l => by
    have ih := encA_length l
    show (encA l).length + 1 + 1 = (l.length + 1) * 2
    omega
theorem encA_append (l m : List (Int × ByteArray)) : encA (l ++ m) = encA l ++ encA m := by unfold encA; rw [List.flatMap_append]
theorem encA_one (l : List (Int × ByteArray)) : ∀ u ∈ encA l, u.oneCell' = true := by
  intro u hu
  unfold encA at hu
  rw [List.mem_flatMap] at hu
  obtain ⟨a, _, h⟩ := hu
  simp only [List.mem_cons, List.not_mem_nil, or_false] at h
  rcases h with rfl | rfl <;> rfl
theorem own_ask (w : World) (B : Nat) (l : List (Int × ByteArray)) (cs : Array Value) (n : Nat) (hn : l.length = n) (hcs : cs = (encA l).toArray) (hB : B ≤ w.heap.size) (hm : n ≤ 1000) : OwnA (w.alloc (.cells cs 33)) B (.slice (some ⟨w.heap.size, 0, none⟩) n n) l := by
  subst hn hcs
  refine ⟨encA_length l, .inr ⟨w.heap.size, l.length, _, rfl, hB, (MapKept.heap_alloc w _).1, Nat.le_refl _, by simp only [maxLen]; omega, ?_, ?_⟩⟩
  · rw [List.size_toArray, encA_length]
  · show (encA l).take _ = _
    rw [List.take_of_length_le (by rw [encA_length]; omega)]
theorem ownA_below {w w' : World} {B : Nat} {v : Value} {l : List (Int × ByteArray)} (h : OwnA w B v l) (hb : Below w.heap.size w w') : OwnA w' B v l :=
  World.ownsRow.kept h (below_grown hb none) (by cases v.ownBlock <;> simp)
/-- lists of numbers and lists of asks lie in other blocks. -/
theorem ownA_kept {w w' : World} {B B' : Nat} {v u : Value} {l : List (Int × ByteArray)} {N : List Int} (h : OwnA w B v l) (ho : OwnI w B' u N) (hg : w.grownBy w' u.ownBlock) : OwnA w' B v l := by
  refine World.ownsRow.kept h hg ?_
  rcases h.2 with ⟨rfl, _⟩ | ⟨g, cap, cur, rfl, _, hh, _⟩
  · exact .inl rfl
  · right
    have := ownI_ne ho hh (by decide)
    exact fun e => this e.symm
theorem ownI_kept_ask {w w' : World} {B B' : Nat} {v u : Value} {l : List (Int × ByteArray)} {N : List Int} (ho : OwnI w B' u N) (h : OwnA w B v l) (hg : w.grownBy w' v.ownBlock) : OwnI w' B' u N := by
  refine ownI_kept ho hg ?_
  rcases h.2 with ⟨rfl, _⟩ | ⟨g, cap, cur, rfl, _, hh, _⟩
  · cases hu : u.ownBlock with
    | none => exact .inl rfl
    | some g => right; intro e; cases e
  · right; exact ownI_ne ho hh (by decide)
theorem add0 (b j : Nat) : (⟨b, 0, none⟩ : Addr).add j = ⟨b, 0 + j, none⟩ := by simp [Addr.add]; intro h; omega
theorem info_ask : (Try.prog.info? 33).map (fun i => (i.zero, i.size, i.bytes)) = some (some (.agg #[.int .i64 0, .string ⟨#[]⟩]), 2, 24) := by kernel_rfl
theorem bl_keepA {w0 W W' : World} {v : Value} {l : List (Int × ByteArray)} (hb : Below w0.heap.size w0 W) (ho : OwnA W w0.heap.size v l) (hg : W.grownBy W' v.ownBlock) : Below w0.heap.size w0 W' :=
  hb.grown hg hb.size (fun k hk => (World.ownsRow.lt ho k hk).1)
/-- an append of asks to a list of the call's own. -/
theorem step_joinA {w : World} {ops : Array Oper} {o : Oper} {a : Act} {K : Act → World → Prop} {Q : Exit → Act → World → Prop} {E : Prop} (hw : Region.wanted o (yielded ops a.tmps) = true) (s x : Operand)
    (hop : o.op = .call { callee := .builtin .append, args := #[s, x], argTypes := #[23, 23] }) {B cq b : Nat} {v : Value} {N A : List (Int × ByteArray)} {n : Nat} (hn : A.length = n) (hs : a.eval s = v) (hx : a.eval x = .slice (some ⟨b, 0, none⟩) n cq)
    (hO : OwnA w B v N) (hA : SlA w (some ⟨b, 0, none⟩) A) (hl : N.length + A.length ≤ 1000) (hB : B ≤ w.heap.size) {M : List (Int × ByteArray)} {m : Nat} (hM : M = N ++ A) (hm : M.length = m)
    (h : ∀ q' c' w', SlA w' q' M → m ≤ c' → c' ≤ 9223372036854775807 → w.grownBy w' v.ownBlock → K (a.put o.dst (.slice q' m c')) w') : if Region.wanted o (yielded ops a.tmps) = true then Oper.wp Try.prog o a w K Q else E := by
  obtain ⟨i0, hinf, hz0, hz1, hz2⟩ := info_parts info_ask
  have hnews : ∀ j u, (encA A)[j]? = some u → w.cell? ((⟨b, 0, none⟩ : Addr).add j) = some u := by
    intro j u hu
    have hj : j < A.length * 2 := by
      rw [← encA_length]
      rcases Nat.lt_or_ge j (encA A).length with h | h
      · exact h
      · rw [List.getElem?_eq_none h] at hu; cases hu
    rcases hA with h | ⟨b2, off, h, hc⟩
    · subst h; simp at hj
    · cases h
      obtain ⟨c1, c2⟩ := hc (j / 2) (by omega)
      obtain ⟨e1, e2⟩ := encA_at A (j / 2) (by omega)
      rw [add0, Nat.zero_add]
      rw [Nat.zero_add] at c1 c2
      rcases Nat.mod_two_eq_zero_or_one j with hm | hm
      · have ej : j / 2 * 2 = j := by omega
        rw [ej] at c1 e1
        rw [c1, ← e1, hu]
      · have ej : j / 2 * 2 + 1 = j := by omega
        rw [ej] at c2 e2
        rw [c2, ← e2, hu]
  obtain ⟨v', w', h1, h2, h3, _⟩ := run_append_own (P := Try.prog) (w := w) B 23 o.type 33 i0 (.agg #[.int .i64 0, .string ⟨#[]⟩]) 2 24 Try.underlying23 hinf hz0 hz1 hz2 rfl (by decide) v N.length _ hO ⟨b, 0, none⟩ A.length cq (encA A) (encA_length A) hnews (encA_one A) (by simp only [maxLen]; omega) (by omega) hB
  have h4 : w'.ownsRow B 33 2 v' (N ++ A).length (encA (N ++ A)) := by rw [List.length_append, encA_append]; exact h2
  rw [if_pos hw]
  unfold Oper.wp
  subst hn
  subst hm
  subst hM
  simp only [execOp, hop, resolve, invoke, builtin, Sem.run_bind, Sem.run_pure, Result.andThen_ok, List.map_toArray, List.map_cons, List.map_nil, hs, hx, h1]
  rcases h4.2 with ⟨rfl, hz⟩ | ⟨g, cap, cur, rfl, _, _, hc, hcm, _⟩
  · have := h none 0 w' (.inl (List.eq_nil_of_length_eq_zero hz)) (by omega) (by omega) h3
    rw [hz] at this; exact this
  · refine h (some ⟨g, 0, none⟩) cap w' (.inr ⟨g, 0, rfl, fun i hi => ?_⟩) hc (by simpa only [maxLen] using hcm) h3
    obtain ⟨e1, e2⟩ := encA_at (N ++ A) i hi
    have k1 := World.ownsRow.cells h4 (g := g) rfl _ _ e1
    have k2 := World.ownsRow.cells h4 (g := g) rfl _ _ e2
    rw [add0] at k1
    rw [add0] at k2
    rw [← Nat.add_assoc] at k2
    exact ⟨k1, k2⟩
theorem reads_own {w : World} {B c na ca : Nat} {q qa : Option Addr} {L : List Int} {asks : List (Int × ByteArray)} (ho : OwnI w B (.slice q L.length c) L) (e2 : asks.length = na) (hok : Ok asks) (ha : SlA w qa asks) (hca : na ≤ ca) (ham : ca ≤ 9223372036854775807) :
    Calls Try.prog 3 #[.slice q L.length c, .slice qa na ca] w (RT w) := by
  obtain ⟨p, c2, e, h1, h2, _⟩ := ownI_form ho
  simp only [Value.slice.injEq, true_and] at e
  obtain ⟨rfl, rfl⟩ := e
  exact reads_q L asks _ c na ca rfl e2 hok (ownI_row ho).1 (ownI_row ho).2 h1 h2 ha hca ham
end Go.Proofs.Ytkpkhjflelmdjaa
