/- Plain lemmas on pieces: code points cut to pieces, each with its class; two such put together; numbered as they are met. Of no program. -/
/- Plain lemmas on classes: pieces that tell apart what sets tell apart; of one set; of two's together; the classes as rows; one list of rows is right. Of no program. -/
/- Plain lemmas on classes: numbers of code points as they are met; the rows of these; one list of rows is right; the rows of pieces. Of no program. -/
/- Plain lemmas on classes, for the laws: the least code points rise; together they have all; those that meet a set make it; which one a code point is of. Of no program. -/
import Derived.Test.YtildfjlaieaadaaGreatRa

namespace Tnr

/-- the class of a code point, of pieces by their beginnings. -/
def cls {α : Type} [Inhabited α] : List (Int × α) → Int → α
  | [], _ => default
  | [p], _ => p.2
  | p :: q :: l, c => if c < q.1 then p.2 else cls (q :: l) c
/-- rising, of code points, two side by side of two classes. -/
def Wf {α : Type} : List (Int × α) → Prop
  | [] => False
  | [p] => p.1 ≤ 1114111
  | p :: q :: l => p.1 < q.1 ∧ p.2 ≠ q.2 ∧ Wf (q :: l)
/-- the last code point of the first piece. -/
def ends {α : Type} : List (Int × α) → Int
  | _ :: q :: _ => q.1 - 1
  | _ => 1114111

theorem Wf.head_le {α : Type} : ∀ {l : List (Int × α)} {p : Int × α}, Wf (p :: l) → p.1 ≤ 1114111
  | [], _, h => h
  | _ :: _, _, h => by have := Wf.head_le h.2.2; have := h.1; omega
theorem Wf.tail {α : Type} {p q : Int × α} {l : List (Int × α)} (h : Wf (p :: q :: l)) : Wf (q :: l) := h.2.2
theorem Wf.ends_ge {α : Type} : ∀ {l : List (Int × α)} {p : Int × α}, Wf (p :: l) → p.1 ≤ ends (p :: l)
  | [], _, h => h
  | q :: _, p, h => by have := h.1; show p.1 ≤ q.1 - 1; omega
theorem Wf.ends_le {α : Type} : ∀ {l : List (Int × α)} {p : Int × α}, Wf (p :: l) → ends (p :: l) ≤ 1114111
  | [], _, _ => Int.le_refl _
  | q :: _, p, h => by have := Wf.head_le h.2.2; show q.1 - 1 ≤ _; omega
theorem Wf.single {α : Type} : ∀ {l : List (Int × α)} {p : Int × α}, Wf (p :: l) → ends (p :: l) = 1114111 → l = []
  | [], _, _, _ => rfl
  | q :: _, p, h, e => by have := Wf.head_le h.2.2; have e' : q.1 - 1 = 1114111 := e; omega
theorem cls_first {α : Type} [Inhabited α] : ∀ {l : List (Int × α)} {p : Int × α} {c : Int}, c ≤ ends (p :: l) → cls (p :: l) c = p.2
  | [], _, _, _ => rfl
  | q :: l, p, c, h => by
    have h' : c ≤ q.1 - 1 := h
    unfold cls
    rw [if_pos (by omega)]
theorem cls_next {α : Type} [Inhabited α] {p q : Int × α} {l : List (Int × α)} {c : Int} (h : q.1 ≤ c) : cls (p :: q :: l) c = cls (q :: l) c := by
  rw [cls]
  rw [if_neg (by omega)]
theorem Wf.above {α : Type} : ∀ {l : List (Int × α)} {p : Int × α}, Wf (p :: l) → ∀ x ∈ p :: l, p.1 ≤ x.1 ∧ x.1 ≤ 1114111
  | [], p, h, x, hx => by
    rw [List.mem_singleton] at hx; subst hx; exact ⟨Int.le_refl _, h⟩
  | q :: l, p, h, x, hx => by
    rcases List.mem_cons.1 hx with rfl | hx
    · exact ⟨Int.le_refl _, Wf.head_le h⟩
    · have := Wf.above h.2.2 x hx
      have := h.1
      omega
/-- each piece's beginning is of its class. -/
theorem cls_at {α : Type} [Inhabited α] : ∀ {l : List (Int × α)} {p : Int × α}, Wf (p :: l) → ∀ x ∈ p :: l, cls (p :: l) x.1 = x.2
  | [], p, _, x, hx => by
    rw [List.mem_singleton] at hx; subst hx; rfl
  | q :: l, p, h, x, hx => by
    rcases List.mem_cons.1 hx with rfl | hx
    · exact cls_first (Wf.ends_ge h)
    · rw [cls_next (Wf.above h.2.2 x hx).1]
      exact cls_at h.2.2 x hx

/-- pieces of both. -/
def mergeP {α β : Type} : List (Int × α) → List (Int × β) → List (Int × (α × β))
  | p :: l, q :: m => (max p.1 q.1, (p.2, q.2)) :: mergeP (if ends (p :: l) ≤ ends (q :: m) then l else p :: l) (if ends (q :: m) ≤ ends (p :: l) then m else q :: m)
  | _, _ => []
termination_by l m => l.length + m.length
decreasing_by
  split <;> split <;> simp only [List.length_cons] <;> omega
theorem mergeP_nil {α β : Type} (m : List (Int × β)) : mergeP ([] : List (Int × α)) m = [] := by
  unfold mergeP; cases m <;> rfl
theorem mergeP_cons {α β : Type} (p : Int × α) (l : List (Int × α)) (q : Int × β) (m : List (Int × β)) :
    mergeP (p :: l) (q :: m) = (max p.1 q.1, (p.2, q.2)) :: mergeP (if ends (p :: l) ≤ ends (q :: m) then l else p :: l) (if ends (q :: m) ≤ ends (p :: l) then m else q :: m) := by
  rw [mergeP]

def MP {α β : Type} [Inhabited α] [Inhabited β] (p : Int × α) (l : List (Int × α)) (q : Int × β) (m : List (Int × β)) : Prop :=
  Wf (mergeP (p :: l) (q :: m)) ∧ (mergeP (p :: l) (q :: m)).length ≤ l.length + m.length + 1 ∧
    ∀ c, max p.1 q.1 ≤ c → c ≤ 1114111 → cls (mergeP (p :: l) (q :: m)) c = (cls (p :: l) c, cls (q :: m) c)
theorem merge_step {α β : Type} [Inhabited α] [Inhabited β] {x : Int × (α × β)} {r : Int × α} {l : List (Int × α)} {s : Int × β} {m : List (Int × β)} {p : Int × α} {q : Int × β} {l0 : List (Int × α)} {m0 : List (Int × β)}
    (hx : x = (max p.1 q.1, (p.2, q.2))) (h : MP r l s m) (h1 : x.1 < max r.1 s.1) (h2 : x.2 ≠ (r.2, s.2))
    (h3 : ∀ c, c < max r.1 s.1 → max p.1 q.1 ≤ c → cls (p :: l0) c = p.2 ∧ cls (q :: m0) c = q.2)
    (h4 : ∀ c, max r.1 s.1 ≤ c → cls (p :: l0) c = cls (r :: l) c ∧ cls (q :: m0) c = cls (s :: m) c) (e : mergeP (p :: l0) (q :: m0) = x :: mergeP (r :: l) (s :: m)) (hn : l.length + m.length < l0.length + m0.length) : MP p l0 q m0 := by
  obtain ⟨a1, a2, a3⟩ := h
  unfold MP
  rw [e]
  rw [mergeP_cons] at a1 a2 a3 ⊢
  refine ⟨⟨h1, h2, a1⟩, by rw [List.length_cons]; omega, fun c hc hm => ?_⟩
  rw [cls]
  simp only
  by_cases hlt : c < max r.1 s.1
  · rw [if_pos hlt, (h3 c hlt hc).1, (h3 c hlt hc).2, hx]
  · rw [if_neg hlt, a3 c (by omega) hm, (h4 c (by omega)).1, (h4 c (by omega)).2]
theorem mergeP_spec {α β : Type} [Inhabited α] [Inhabited β] : ∀ (n : Nat) (l : List (Int × α)) (m : List (Int × β)) (p : Int × α) (q : Int × β), l.length + m.length ≤ n → Wf (p :: l) → Wf (q :: m) → p.1 ≤ ends (q :: m) → q.1 ≤ ends (p :: l) → MP p l q m
  | n, [], [], p, q, _, hl, hm, _, _ => by
    have e : mergeP [p] [q] = [(max p.1 q.1, (p.2, q.2))] := by
      rw [mergeP_cons]; simp [ends, mergeP_nil]
    unfold MP
    rw [e]
    have h1 : p.1 ≤ 1114111 := hl
    have h2 : q.1 ≤ 1114111 := hm
    exact ⟨by show max p.1 q.1 ≤ 1114111; omega, by simp, fun c _ _ => rfl⟩
  | 0, _ :: _, _, _, _, hn, _, _, _, _ => absurd hn (by simp)
  | 0, [], _ :: _, _, _, hn, _, _, _, _ => absurd hn (by simp)
  | n + 1, p' :: l, [], p, q, hn, hl, hm, h1, h2 => by
    have hp' := Wf.head_le hl.2.2
    have h2' : q.1 ≤ p'.1 - 1 := h2
    have hlt := hl.1
    have e : mergeP (p :: p' :: l) [q] = (max p.1 q.1, (p.2, q.2)) :: mergeP (p' :: l) [q] := by
      rw [mergeP_cons]
      have k1 : ends (p :: p' :: l) ≤ ends [q] := by show p'.1 - 1 ≤ 1114111; omega
      have k2 : ¬ ends [q] ≤ ends (p :: p' :: l) := by show ¬ 1114111 ≤ p'.1 - 1; omega
      rw [if_pos k1, if_neg k2]
    refine merge_step rfl (mergeP_spec n l [] p' q (by simp only [List.length_cons, List.length_nil] at hn ⊢; omega) hl.2.2 hm (by show p'.1 ≤ 1114111; omega) (by have := Wf.ends_ge hl.2.2; omega)) (by show max p.1 q.1 < max p'.1 q.1; omega) (fun h => hl.2.1 (Prod.mk.inj h).1) (fun c h3 h4 => ⟨cls_first (by show c ≤ p'.1 - 1; omega), rfl⟩) (fun c h3 => ⟨cls_next (by omega), rfl⟩) e (by simp)
  | n + 1, [], q' :: m, p, q, hn, hl, hm, h1, h2 => by
    have hp' := Wf.head_le hm.2.2
    have h2' : p.1 ≤ q'.1 - 1 := h1
    have hlt := hm.1
    have e : mergeP [p] (q :: q' :: m) = (max p.1 q.1, (p.2, q.2)) :: mergeP [p] (q' :: m) := by
      rw [mergeP_cons]
      have k1 : ends (q :: q' :: m) ≤ ends [p] := by show q'.1 - 1 ≤ 1114111; omega
      have k2 : ¬ ends [p] ≤ ends (q :: q' :: m) := by show ¬ 1114111 ≤ q'.1 - 1; omega
      rw [if_pos k1, if_neg k2]
    refine merge_step rfl (mergeP_spec n [] m p q' (by simp only [List.length_cons, List.length_nil] at hn ⊢; omega) hl hm.2.2 (by have := Wf.ends_ge hm.2.2; omega) (by show q'.1 ≤ 1114111; omega)) (by show max p.1 q.1 < max p.1 q'.1; omega) (fun h => hm.2.1 (Prod.mk.inj h).2) (fun c h3 h4 => ⟨rfl, cls_first (by show c ≤ q'.1 - 1; omega)⟩) (fun c h3 => ⟨rfl, cls_next (by omega)⟩) e (by simp)
  | n + 1, p' :: l, q' :: m, p, q, hn, hl, hm, h1, h2 => by
    have hp' := Wf.head_le hl.2.2
    have hq' := Wf.head_le hm.2.2
    have h1' : p.1 ≤ q'.1 - 1 := h1
    have h2' : q.1 ≤ p'.1 - 1 := h2
    have hlp := hl.1
    have hlq := hm.1
    rcases Int.lt_trichotomy p'.1 q'.1 with k | k | k
    · have e : mergeP (p :: p' :: l) (q :: q' :: m) = (max p.1 q.1, (p.2, q.2)) :: mergeP (p' :: l) (q :: q' :: m) := by
        rw [mergeP_cons]
        have k1 : ends (p :: p' :: l) ≤ ends (q :: q' :: m) := by show p'.1 - 1 ≤ q'.1 - 1; omega
        have k2 : ¬ ends (q :: q' :: m) ≤ ends (p :: p' :: l) := by show ¬ q'.1 - 1 ≤ p'.1 - 1; omega
        rw [if_pos k1, if_neg k2]
      refine merge_step rfl (mergeP_spec n l (q' :: m) p' q (by simp only [List.length_cons] at hn ⊢; omega) hl.2.2 hm (by show p'.1 ≤ q'.1 - 1; omega) (by have := Wf.ends_ge hl.2.2; omega)) (by show max p.1 q.1 < max p'.1 q.1; omega) (fun h => hl.2.1 (Prod.mk.inj h).1) (fun c h3 h4 => ⟨cls_first (by show c ≤ p'.1 - 1; omega), cls_first (by show c ≤ q'.1 - 1; omega)⟩) (fun c h3 => ⟨cls_next (by omega), rfl⟩) e (by simp)
    · have e : mergeP (p :: p' :: l) (q :: q' :: m) = (max p.1 q.1, (p.2, q.2)) :: mergeP (p' :: l) (q' :: m) := by
        rw [mergeP_cons]
        have k1 : ends (p :: p' :: l) ≤ ends (q :: q' :: m) := by show p'.1 - 1 ≤ q'.1 - 1; omega
        have k2 : ends (q :: q' :: m) ≤ ends (p :: p' :: l) := by show q'.1 - 1 ≤ p'.1 - 1; omega
        rw [if_pos k1, if_pos k2]
      refine merge_step rfl (mergeP_spec n l m p' q' (by simp only [List.length_cons] at hn ⊢; omega) hl.2.2 hm.2.2 (by have := Wf.ends_ge hm.2.2; omega) (by have := Wf.ends_ge hl.2.2; omega)) (by show max p.1 q.1 < max p'.1 q'.1; omega) (fun h => hl.2.1 (Prod.mk.inj h).1) (fun c h3 h4 => ⟨cls_first (by show c ≤ p'.1 - 1; omega), cls_first (by show c ≤ q'.1 - 1; omega)⟩) (fun c h3 => ⟨cls_next (by omega), cls_next (by omega)⟩) e (by simp; omega)
    · have e : mergeP (p :: p' :: l) (q :: q' :: m) = (max p.1 q.1, (p.2, q.2)) :: mergeP (p :: p' :: l) (q' :: m) := by
        rw [mergeP_cons]
        have k1 : ¬ ends (p :: p' :: l) ≤ ends (q :: q' :: m) := by show ¬ p'.1 - 1 ≤ q'.1 - 1; omega
        have k2 : ends (q :: q' :: m) ≤ ends (p :: p' :: l) := by show q'.1 - 1 ≤ p'.1 - 1; omega
        rw [if_neg k1, if_pos k2]
      refine merge_step rfl (mergeP_spec n (p' :: l) m p q' (by simp only [List.length_cons] at hn ⊢; omega) hl hm.2.2 (by have := Wf.ends_ge hm.2.2; omega) (by show q'.1 ≤ p'.1 - 1; omega)) (by show max p.1 q.1 < max p.1 q'.1; omega) (fun h => hm.2.1 (Prod.mk.inj h).2) (fun c h3 h4 => ⟨cls_first (by show c ≤ p'.1 - 1; omega), cls_first (by show c ≤ q'.1 - 1; omega)⟩) (fun c h3 => ⟨rfl, cls_next (by omega)⟩) e (by simp)

/-- what was met, each once, as it is met. -/
def keysOn {κ : Type} [DecidableEq κ] (ks : List κ) (p : Int × κ) : List κ := if p.2 ∈ ks then ks else ks ++ [p.2]
def keys {κ : Type} [DecidableEq κ] (ps : List (Int × κ)) : List κ := ps.foldl keysOn []
theorem keys_snoc {κ : Type} [DecidableEq κ] (ps : List (Int × κ)) (p : Int × κ) : keys (ps ++ [p]) = keysOn (keys ps) p := by simp [keys]
theorem snoc_ind {α : Type} {P : List α → Prop} (h0 : P []) (h1 : ∀ l x, P l → P (l ++ [x])) (l : List α) : P l := by
  rw [← List.reverse_reverse l]
  induction l.reverse with
  | nil => exact h0
  | cons x l ih => rw [List.reverse_cons]; exact h1 _ _ ih
theorem mem_keys {κ : Type} [DecidableEq κ] (ps : List (Int × κ)) : ∀ k, k ∈ keys ps ↔ ∃ p ∈ ps, p.2 = k := by
  induction ps using snoc_ind with
  | h0 => intro k; simp [keys]
  | h1 l x ih =>
    intro k
    rw [keys_snoc]
    unfold keysOn
    split
    · rename_i hm
      rw [ih]
      constructor
      · rintro ⟨p, hp, e⟩
        exact ⟨p, List.mem_append_left _ hp, e⟩
      · rintro ⟨p, hp, e⟩
        rw [List.mem_append, List.mem_singleton] at hp
        rcases hp with hp | rfl
        · exact ⟨p, hp, e⟩
        · rw [e] at hm
          exact (ih k).1 hm
    · rw [List.mem_append, List.mem_singleton, ih]
      constructor
      · rintro (⟨p, hp, e⟩ | e)
        · exact ⟨p, List.mem_append_left _ hp, e⟩
        · exact ⟨x, by simp, e.symm⟩
      · rintro ⟨p, hp, e⟩
        rw [List.mem_append, List.mem_singleton] at hp
        rcases hp with hp | rfl
        · exact .inl ⟨p, hp, e⟩
        · exact .inr e.symm
theorem keys_nodup {κ : Type} [DecidableEq κ] (ps : List (Int × κ)) : (keys ps).Nodup := by
  induction ps using snoc_ind with
  | h0 => simp [keys]
  | h1 l x ih =>
    rw [keys_snoc]
    unfold keysOn
    split
    · exact ih
    · rename_i hm
      rw [List.nodup_append]
      refine ⟨ih, by simp, ?_⟩
      intro a ha b hb e
      rw [List.mem_singleton] at hb
      subst hb; subst e
      exact hm ha
/-- numbers of the pieces. -/
def numd {κ : Type} [DecidableEq κ] (ps : List (Int × κ)) : List (Int × Nat) := ps.map fun p => (p.1, (keys ps).idxOf p.2)
theorem idx_keysOn {κ : Type} [DecidableEq κ] {ks : List κ} {k : κ} (p : Int × κ) (h : k ∈ ks) : (keysOn ks p).idxOf k = ks.idxOf k := by
  unfold keysOn
  split
  · rfl
  · rw [List.idxOf_append, if_pos h]
theorem numd_snoc {κ : Type} [DecidableEq κ] (ps : List (Int × κ)) (p : Int × κ) : numd (ps ++ [p]) = numd ps ++ [(p.1, (keysOn (keys ps) p).idxOf p.2)] := by
  unfold numd
  rw [List.map_append, keys_snoc]
  congr 1
  apply List.map_congr_left
  intro x hx
  rw [idx_keysOn p ((mem_keys ps x.2).2 ⟨x, hx, rfl⟩)]
theorem idx_new {κ : Type} [DecidableEq κ] {ks : List κ} {p : Int × κ} (h : p.2 ∉ ks) : (keysOn ks p).idxOf p.2 = ks.length := by
  unfold keysOn
  rw [if_neg h, List.idxOf_append, if_neg h]
  simp
theorem idx_met {κ : Type} [DecidableEq κ] {ks : List κ} {p : Int × κ} (h : p.2 ∈ ks) : (keysOn ks p).idxOf p.2 = ks.idxOf p.2 := idx_keysOn p h
theorem keysOn_length {κ : Type} [DecidableEq κ] (ks : List κ) (p : Int × κ) : (keysOn ks p).length = if p.2 ∈ ks then ks.length else ks.length + 1 := by
  unfold keysOn; split <;> simp
theorem keys_length_le {κ : Type} [DecidableEq κ] (ps : List (Int × κ)) : (keys ps).length ≤ ps.length := by
  induction ps using snoc_ind with
  | h0 => simp [keys]
  | h1 l x ih => rw [keys_snoc, keysOn_length, List.length_append]; split <;> simp <;> omega

/-- numbers as they are met: each is one that was, or the next one. -/
def Nm : Nat → List Nat → Nat → Prop
  | n, [], m => n = m
  | n, k :: l, m => k ≤ n ∧ Nm (if k = n then n + 1 else n) l m
theorem nm_snoc : ∀ {l : List Nat} {n m k : Nat}, Nm n l m → k ≤ m → Nm n (l ++ [k]) (if k = m then m + 1 else m)
  | [], n, m, k, h, hk => by
    have e : n = m := h
    subst e
    exact ⟨hk, rfl⟩
  | a :: l, n, m, k, h, hk => ⟨h.1, nm_snoc h.2 hk⟩
theorem numd_nm {κ : Type} [DecidableEq κ] (ps : List (Int × κ)) : Nm 0 ((numd ps).map Prod.snd) (keys ps).length := by
  induction ps using snoc_ind with
  | h0 => simp [numd, keys, Nm]
  | h1 l x ih =>
    rw [numd_snoc, List.map_append, keys_snoc, keysOn_length]
    by_cases hm : x.2 ∈ keys l
    · rw [idx_met hm, if_pos hm]
      have hlt := List.idxOf_lt_length_of_mem hm
      have := nm_snoc ih (Nat.le_of_lt hlt)
      rw [if_neg (by omega)] at this
      exact this
    · rw [idx_new hm, if_neg hm]
      have := nm_snoc ih (Nat.le_refl _)
      rw [if_pos rfl] at this
      exact this
/-- pieces with their classes named otherwise. -/
theorem wf_map {α β : Type} [Inhabited α] [Inhabited β] (f : α → β) : ∀ (l : List (Int × α)) (p : Int × α), (∀ x ∈ p :: l, ∀ y ∈ p :: l, f x.2 = f y.2 → x.2 = y.2) → Wf (p :: l) → Wf ((p :: l).map fun x => (x.1, f x.2)) ∧ ∀ c, p.1 ≤ c → cls ((p :: l).map fun x => (x.1, f x.2)) c = f (cls (p :: l) c)
  | [], p, _, h => ⟨h, fun c _ => rfl⟩
  | q :: l, p, hf, h => by
    obtain ⟨a1, a2⟩ := wf_map f l q (fun x hx y hy => hf x (List.mem_cons_of_mem _ hx) y (List.mem_cons_of_mem _ hy)) h.2.2
    refine ⟨⟨h.1, fun e => h.2.1 (hf p (by simp) q (by simp) e), a1⟩, fun c hc => ?_⟩
    rw [List.map_cons, List.map_cons, cls]
    simp only
    rw [cls]
    split
    · rfl
    · exact a2 c (by omega)
theorem idx_inj {κ : Type} [DecidableEq κ] {ks : List κ} {a b : κ} (ha : a ∈ ks) (hb : b ∈ ks) (e : ks.idxOf a = ks.idxOf b) : a = b := by
  have h1 := List.getElem_idxOf (List.idxOf_lt_length_of_mem ha)
  have h2 := List.getElem_idxOf (List.idxOf_lt_length_of_mem hb)
  simp only [e] at h1
  rw [← h1, h2]
theorem numd_wf {κ : Type} [DecidableEq κ] [Inhabited κ] (l : List (Int × κ)) (p : Int × κ) (h : Wf (p :: l)) : Wf (numd (p :: l)) ∧ ∀ c, p.1 ≤ c → cls (numd (p :: l)) c = (keys (p :: l)).idxOf (cls (p :: l) c) := by
  refine wf_map (β := Nat) (fun k => (keys (p :: l)).idxOf k) l p (fun x hx y hy e => ?_) h
  exact idx_inj ((mem_keys _ _).2 ⟨x, hx, rfl⟩) ((mem_keys _ _).2 ⟨y, hy, rfl⟩) e
/-- a key's place. -/
def ix {κ : Type} [DecidableEq κ] (ks : List κ) (k : κ) : Nat := ks.idxOf k
theorem ix_lt {κ : Type} [DecidableEq κ] {ks : List κ} {k : κ} (h : k ∈ ks) : ix ks k < ks.length := List.idxOf_lt_length_of_mem h
theorem ix_snoc_mem {κ : Type} [DecidableEq κ] {ks : List κ} {k x : κ} (h : k ∈ ks) : ix (ks ++ [x]) k = ix ks k := by unfold ix; rw [List.idxOf_append, if_pos h]
theorem ix_snoc_new {κ : Type} [DecidableEq κ] {ks : List κ} {k : κ} (h : k ∉ ks) : ix (ks ++ [k]) k = ks.length := by unfold ix; rw [List.idxOf_append, if_neg h]; simp
theorem ix_new {κ : Type} [DecidableEq κ] {ks : List κ} {p : Int × κ} (h : p.2 ∉ ks) : ix (keysOn ks p) p.2 = ks.length := idx_new h
theorem numd_snoc_ix {κ : Type} [DecidableEq κ] (ps : List (Int × κ)) (p : Int × κ) : numd (ps ++ [p]) = numd ps ++ [(p.1, ix (keysOn (keys ps) p) p.2)] := numd_snoc ps p
theorem cls_mem {α : Type} [Inhabited α] : ∀ (l : List (Int × α)) (p : Int × α) (c : Int), ∃ x ∈ p :: l, x.2 = cls (p :: l) c
  | [], p, _ => ⟨p, by simp, rfl⟩
  | q :: l, p, c => by
    rw [cls]
    split
    · exact ⟨p, by simp, rfl⟩
    · obtain ⟨x, hx, e⟩ := cls_mem l q c
      exact ⟨x, List.mem_cons_of_mem _ hx, e⟩
end Tnr


namespace Tnr

def Pt (c : Int) : Prop := 0 ≤ c ∧ c ≤ 1114111
def alike (S : List (List R)) (a b : Int) : Prop := ∀ s ∈ S, (Has s a ↔ Has s b)
theorem alike.refl (S : List (List R)) (a : Int) : alike S a a := fun _ _ => Iff.rfl
theorem alike.symm {S : List (List R)} {a b : Int} (h : alike S a b) : alike S b a := fun s hs => (h s hs).symm
theorem alike.trans {S : List (List R)} {a b c : Int} (h : alike S a b) (k : alike S b c) : alike S a c := fun s hs => (h s hs).trans (k s hs)
theorem alike_append (S T : List (List R)) (a b : Int) : alike (S ++ T) a b ↔ alike S a b ∧ alike T a b := by
  unfold alike
  constructor
  · intro h
    exact ⟨fun s hs => h s (List.mem_append_left _ hs), fun s hs => h s (List.mem_append_right _ hs)⟩
  · rintro ⟨h1, h2⟩ s hs
    rcases List.mem_append.1 hs with hs | hs
    · exact h1 s hs
    · exact h2 s hs
structure Good (S : List (List R)) (ps : List (Int × Nat)) (n : Nat) : Prop where
  start : ∃ k l, ps = (0, k) :: l
  wf : Wf ps
  nm : Nm 0 (ps.map Prod.snd) n
  few : n ≤ 60
  tell : ∀ a b, Pt a → Pt b → (cls ps a = cls ps b ↔ alike S a b)
/-- there are more classes than there may be. -/
def More (S : List (List R)) : Prop := ∃ P : List Int, P.length = 61 ∧ (∀ c ∈ P, Pt c) ∧ P.Pairwise fun a b => ¬ alike S a b
theorem More.left {S : List (List R)} (T : List (List R)) (h : More S) : More (S ++ T) := by
  obtain ⟨P, h1, h2, h3⟩ := h
  exact ⟨P, h1, h2, h3.imp fun hn ha => hn ((alike_append S T _ _).1 ha).1⟩
theorem More.right (S : List (List R)) {T : List (List R)} (h : More T) : More (S ++ T) := by
  obtain ⟨P, h1, h2, h3⟩ := h
  exact ⟨P, h1, h2, h3.imp fun hn ha => hn ((alike_append S T _ _).1 ha).2⟩

/-! ### both together -/
theorem merge_start {α β : Type} {a : α} {b : β} {l : List (Int × α)} {m : List (Int × β)} : ∃ t, mergeP ((0, a) :: l) ((0, b) :: m) = (0, (a, b)) :: t := by
  rw [mergeP_cons]
  exact ⟨_, rfl⟩
theorem merge_good {S T : List (List R)} {l m : List (Int × Nat)} {n1 n2 : Nat} (hl : Good S l n1) (hm : Good T m n2) :
    (∃ k t, mergeP l m = (0, k) :: t) ∧ Wf (mergeP l m) ∧ (mergeP l m).length + 1 ≤ l.length + m.length ∧ (∀ c, Pt c → cls (mergeP l m) c = (cls l c, cls m c)) := by
  obtain ⟨a, l', rfl⟩ := hl.start
  obtain ⟨b, m', rfl⟩ := hm.start
  obtain ⟨t, ht⟩ := @merge_start _ _ a b l' m'
  obtain ⟨h1, h2, h3⟩ := mergeP_spec _ l' m' (0, a) (0, b) (Nat.le_refl _) hl.wf hm.wf (Wf.ends_ge hm.wf) (Wf.ends_ge hl.wf)
  refine ⟨⟨_, t, ht⟩, h1, by simp only [List.length_cons]; omega, fun c hc => h3 c (by show max 0 0 ≤ c; have := hc.1; omega) hc.2⟩
theorem good_merge {S T : List (List R)} {l m : List (Int × Nat)} {n1 n2 : Nat} (hl : Good S l n1) (hm : Good T m n2) (hk : (keys (mergeP l m)).length ≤ 60) :
    Good (S ++ T) (numd (mergeP l m)) (keys (mergeP l m)).length := by
  obtain ⟨⟨k, t, ht⟩, hw, _, hc⟩ := merge_good hl hm
  refine ⟨⟨_, _, by rw [ht]; rfl⟩, ?_, numd_nm _, hk, fun a b ha hb => ?_⟩
  · rw [ht] at hw ⊢
    exact (numd_wf _ _ hw).1
  · rw [alike_append, ← hl.tell a b ha hb, ← hm.tell a b ha hb]
    have hca := hc a ha
    have hcb := hc b hb
    rw [ht] at hw hca hcb ⊢
    have h0 := (numd_wf _ _ hw).2
    rw [h0 a ha.1, h0 b hb.1, hca, hcb]
    constructor
    · intro e
      have h1 := cls_mem t (0, k) a
      have h2 := cls_mem t (0, k) b
      rw [hca] at h1
      rw [hcb] at h2
      have e' := idx_inj ((mem_keys _ _).2 h1) ((mem_keys _ _).2 h2) e
      exact ⟨congrArg Prod.fst e', congrArg Prod.snd e'⟩
    · rintro ⟨e1, e2⟩
      rw [e1, e2]
theorem witnesses {κ : Type} (K : Int → κ) : ∀ ks : List κ, (∀ k ∈ ks, ∃ c, Pt c ∧ K c = k) → ∃ P : List Int, P.map K = ks ∧ ∀ c ∈ P, Pt c
  | [], _ => ⟨[], rfl, by simp⟩
  | k :: ks, h => by
    obtain ⟨P, h1, h2⟩ := witnesses K ks fun k' hk => h k' (List.mem_cons_of_mem _ hk)
    obtain ⟨c, hc, e⟩ := h k (by simp)
    refine ⟨c :: P, by rw [List.map_cons, e, h1], fun x hx => ?_⟩
    rcases List.mem_cons.1 hx with rfl | hx
    · exact hc
    · exact h2 x hx
theorem more_of {κ : Type} {S : List (List R)} (K : Int → κ) (hK : ∀ a b, Pt a → Pt b → alike S a b → K a = K b) (ks : List κ) (hn : ks.Nodup) (hl : 60 < ks.length) (h : ∀ k ∈ ks, ∃ c, Pt c ∧ K c = k) : More S := by
  obtain ⟨P, h1, h2⟩ := witnesses K (ks.take 61) fun k hk => h k (List.mem_of_mem_take hk)
  have hnd : (P.map K).Nodup := by rw [h1]; exact hn.sublist (List.take_sublist _ _)
  refine ⟨P, ?_, h2, ?_⟩
  · have := congrArg List.length h1
    rw [List.length_map, List.length_take] at this
    omega
  · have h3 : P.Pairwise fun a b => K a ≠ K b := List.pairwise_map.1 hnd
    exact List.Pairwise.imp_of_mem (fun {a b} ha hb hne hal => hne (hK a b (h2 a ha) (h2 b hb) hal)) h3
theorem more_merge {S T : List (List R)} {l m : List (Int × Nat)} {n1 n2 : Nat} (hl : Good S l n1) (hm : Good T m n2) {don rest : List (Int × (Nat × Nat))} (e : mergeP l m = don ++ rest) (hk : 60 < (keys don).length) : More (S ++ T) := by
  obtain ⟨⟨k, t, ht⟩, hw, _, hc⟩ := merge_good hl hm
  refine more_of (fun c => (cls l c, cls m c)) (fun a b ha hb hal => ?_) (keys don) (keys_nodup don) hk fun k' hk' => ?_
  · obtain ⟨h1, h2⟩ := (alike_append S T a b).1 hal
    rw [(hl.tell a b ha hb).2 h1, (hm.tell a b ha hb).2 h2]
  · obtain ⟨p, hp, e2⟩ := (mem_keys _ _).1 hk'
    have hp' : p ∈ (0, k) :: t := by rw [← ht, e]; exact List.mem_append_left _ hp
    rw [ht] at hw
    have h1 := Wf.above hw p hp'
    have h2 := cls_at hw p hp'
    have h3 : Pt p.1 := ⟨h1.1, h1.2⟩
    refine ⟨p.1, h3, ?_⟩
    rw [← hc p.1 h3, ht, h2, e2]

/-! ### one set -/
def cutsR (l : List R) : List Int := l.flatMap fun r => [r.1, r.2 + 1]
theorem cutsR_cons (r : R) (l : List R) : cutsR (r :: l) = r.1 :: (r.2 + 1) :: cutsR l := rfl
def okCut (c : Int) : Bool := decide (0 < c) && decide (c ≤ 1114111)
def alt : Nat → List Int → List (Int × Nat)
  | _, [] => []
  | k, x :: t => (x, k % 2) :: alt (k + 1) t
def setP (l : List R) : List (Int × Nat) := alt 0 (0 :: (cutsR l).filter okCut)
theorem alt_length : ∀ (t : List Int) (k : Nat), (alt k t).length = t.length
  | [], _ => rfl
  | x :: t, k => by rw [alt, List.length_cons, alt_length t, List.length_cons]
theorem alt_fst : ∀ (t : List Int) (k : Nat), (alt k t).map Prod.fst = t
  | [], _ => rfl
  | x :: t, k => by rw [alt, List.map_cons, alt_fst t]
theorem alt_snoc : ∀ (t : List Int) (k : Nat) (x : Int), alt k (t ++ [x]) = alt k t ++ [(x, (k + t.length) % 2)]
  | [], k, x => rfl
  | y :: t, k, x => by rw [List.cons_append, alt, alt_snoc t, alt, List.length_cons, List.cons_append, show k + 1 + t.length = k + (t.length + 1) by omega]
theorem alt_nm : ∀ (t : List Int) (k : Nat), Nm 2 ((alt k t).map Prod.snd) 2
  | [], _ => rfl
  | x :: t, k => by
    rw [alt, List.map_cons]
    refine ⟨by show k % 2 ≤ 2; omega, ?_⟩
    rw [if_neg (by show ¬ k % 2 = 2; omega)]
    exact alt_nm t (k + 1)
theorem cutsR_above : ∀ {l : List R} {last : Int}, RF last l → ∀ x ∈ cutsR l, last + 1 < x
  | [], _, _, x, hx => by simp [cutsR] at hx
  | r :: l, last, h, x, hx => by
    obtain ⟨a1, a2, a3, a4⟩ := h
    rw [cutsR_cons] at hx
    rcases List.mem_cons.1 hx with rfl | hx
    · omega
    rcases List.mem_cons.1 hx with rfl | hx
    · omega
    have := cutsR_above a4 x hx
    omega
theorem cutsR_rising : ∀ {l : List R} {last : Int}, RF last l → (cutsR l).Pairwise (· < ·)
  | [], _, _ => by simp [cutsR]
  | r :: l, last, h => by
    obtain ⟨a1, a2, a3, a4⟩ := h
    rw [cutsR_cons, List.pairwise_cons, List.pairwise_cons]
    refine ⟨fun x hx => ?_, fun x hx => by have := cutsR_above a4 x hx; omega, cutsR_rising a4⟩
    rcases List.mem_cons.1 hx with rfl | hx
    · omega
    · have := cutsR_above a4 x hx; omega
theorem count_zero {t : List Int} {c : Int} (h : ∀ x ∈ t, c < x) : t.countP (fun x => decide (x ≤ c)) = 0 := by
  rw [List.countP_eq_zero]
  intro x hx
  have := h x hx
  simp; omega
theorem cov_count : ∀ {l : List R} {last c : Int}, RF last l → (Cov l c ↔ (cutsR l).countP (fun x => decide (x ≤ c)) % 2 = 1)
  | [], _, _, _ => by simp [cutsR, cov_nil]
  | r :: l, last, c, h => by
    obtain ⟨a1, a2, a3, a4⟩ := h
    rw [cov_cons, cutsR_cons, List.countP_cons, List.countP_cons, cov_count (c := c) a4]
    by_cases h1 : c < r.1
    · rw [count_zero (fun x hx => by have := cutsR_above a4 x hx; omega)]
      rw [if_neg (by simp; omega), if_neg (by simp; omega)]
      simp; omega
    · by_cases h2 : c ≤ r.2
      · rw [count_zero (fun x hx => by have := cutsR_above a4 x hx; omega)]
        rw [if_neg (by simp; omega), if_pos (by simp; omega)]
        simp; omega
      · rw [if_pos (by simp; omega), if_pos (by simp; omega)]
        constructor
        · rintro (h | h)
          · omega
          · omega
        · intro h; right; omega
theorem count_ok : ∀ (t : List Int) (c : Int), Pt c → (t.filter okCut).countP (fun x => decide (x ≤ c)) + t.countP (fun x => decide (x ≤ 0)) = t.countP (fun x => decide (x ≤ c))
  | [], _, _ => rfl
  | x :: t, c, hc => by
    have ih := count_ok t c hc
    have h1 := hc.1
    have h2 := hc.2
    rw [List.filter_cons]
    by_cases hx : 0 < x
    · by_cases hm : x ≤ 1114111
      · rw [if_pos (by simp [okCut]; omega), List.countP_cons, List.countP_cons, List.countP_cons]
        by_cases h3 : x ≤ c
        · rw [if_pos (by simpa using h3), if_neg (by simp; omega)]; omega
        · rw [if_neg (by simpa using h3), if_neg (by simp; omega)]; omega
      · rw [if_neg (by simp [okCut]; omega), List.countP_cons, List.countP_cons, if_neg (by simp; omega), if_neg (by simp; omega)]; omega
    · rw [if_neg (by simp [okCut]; omega), List.countP_cons, List.countP_cons, if_pos (by simp; omega), if_pos (by simp; omega)]; omega
theorem alt_spec : ∀ (t : List Int) (x : Int) (k : Nat), (x :: t).Pairwise (· < ·) → (∀ y ∈ x :: t, y ≤ 1114111) → Wf (alt k (x :: t)) ∧ ∀ c, x ≤ c → cls (alt k (x :: t)) c = (k + t.countP (fun y => decide (y ≤ c))) % 2
  | [], x, k, _, h => ⟨h x (by simp), fun c _ => by simp [alt, cls]⟩
  | y :: t, x, k, hp, hm => by
    rw [List.pairwise_cons] at hp
    obtain ⟨i1, i2⟩ := alt_spec t y (k + 1) hp.2 fun z hz => hm z (List.mem_cons_of_mem _ hz)
    refine ⟨⟨hp.1 y (by simp), by show k % 2 ≠ (k + 1) % 2; omega, i1⟩, fun c hc => ?_⟩
    show cls ((x, k % 2) :: alt (k + 1) (y :: t)) c = _
    rw [alt, cls]
    simp only
    split
    · rename_i hlt
      rw [count_zero (fun z hz => ?_)]
      · rfl
      · rcases List.mem_cons.1 hz with rfl | hz
        · exact hlt
        · have := (List.pairwise_cons.1 hp.2).1 z hz
          omega
    · rename_i hlt
      have := i2 c (by omega)
      rw [alt] at this
      rw [this, List.countP_cons, if_pos (by simp; omega)]
      congr 1
      omega
theorem setP_good {l : List R} (h : Rt l) : ∃ n, Good [l] (setP l) n := by
  have hr : (0 :: (cutsR l).filter okCut).Pairwise (· < ·) := by
    rw [List.pairwise_cons]
    refine ⟨fun x hx => ?_, (cutsR_rising h).filter _⟩
    have := (List.mem_filter.1 hx).2
    simp [okCut] at this
    omega
  have hm : ∀ y ∈ 0 :: (cutsR l).filter okCut, y ≤ 1114111 := by
    intro y hy
    rcases List.mem_cons.1 hy with rfl | hy
    · omega
    · have := (List.mem_filter.1 hy).2
      simp [okCut] at this
      omega
  obtain ⟨s1, s2⟩ := alt_spec _ 0 0 hr hm
  obtain ⟨n, hn, h60⟩ : ∃ n, Nm 0 ((setP l).map Prod.snd) n ∧ n ≤ 60 := by
    unfold setP
    cases (cutsR l).filter okCut with
    | nil => exact ⟨1, by simp [alt, Nm], by omega⟩
    | cons x t =>
      refine ⟨2, ⟨by simp, ?_⟩, by omega⟩
      refine ⟨by simp, ?_⟩
      exact alt_nm t 2
  refine ⟨n, ⟨0, _, rfl⟩, s1, hn, h60, fun a b ha hb => ?_⟩
  unfold setP
  rw [s2 a ha.1, s2 b hb.1, Nat.zero_add, Nat.zero_add]
  have ca := count_ok (cutsR l) a ha
  have cb := count_ok (cutsR l) b hb
  have ka := cov_count (c := a) h
  have kb := cov_count (c := b) h
  have e : alike [l] a b ↔ (Cov l a ↔ Cov l b) := by
    unfold alike
    simp only [List.mem_singleton, forall_eq]
    rw [h.has, h.has]
  rw [e, ka, kb]
  omega
theorem cutsR_length (l : List R) : (cutsR l).length = 2 * l.length := by
  induction l with
  | nil => rfl
  | cons r l ih => rw [cutsR_cons]; simp only [List.length_cons, ih]; omega
theorem setP_length (l : List R) : (setP l).length ≤ 2 * l.length + 1 := by
  unfold setP
  rw [alt_length, List.length_cons]
  have := List.length_filter_le okCut (cutsR l)
  rw [cutsR_length] at this
  omega
theorem good_cong {S T : List (List R)} {ps : List (Int × Nat)} {n : Nat} (h : Good S ps n) (e : ∀ a b, alike S a b ↔ alike T a b) : Good T ps n := ⟨h.start, h.wf, h.nm, h.few, fun a b ha hb => (h.tell a b ha hb).trans (e a b)⟩
end Tnr


namespace Tnr

/-- numbers of code points, as they are met. -/
structure Numb (S : List (List R)) (num : Int → Nat) : Prop where
  tell : ∀ a b, Pt a → Pt b → (num a = num b ↔ alike S a b)
  met : ∀ c, Pt c → ∀ k, k < num c → ∃ d, Pt d ∧ d < c ∧ num d = k
theorem Numb.step {S : List (List R)} {f g : Int → Nat} (hf : Numb S f) (hg : Numb S g) {c : Int} (hc : Pt c) (ih : ∀ d, Pt d → d < c → f d = g d) : ¬ f c < g c := by
  intro h
  obtain ⟨d, hd, hlt, e⟩ := hg.met c hc _ h
  have h1 := ih d hd hlt
  have h2 := (hf.tell d c hd hc).1 (by omega)
  have h3 := (hg.tell d c hd hc).2 h2
  omega
theorem Numb.one {S : List (List R)} {f g : Int → Nat} (hf : Numb S f) (hg : Numb S g) : ∀ (n : Nat) (c : Int), Pt c → c < n → f c = g c
  | 0, c, hc, h => by have := hc.1; omega
  | n + 1, c, hc, h => by
    have ih : ∀ d, Pt d → d < c → f d = g d := fun d hd hlt => Numb.one hf hg n d hd (by omega)
    have h1 := Numb.step hf hg hc ih
    have h2 := Numb.step hg hf hc fun d hd hlt => (ih d hd hlt).symm
    omega
theorem Numb.same {S : List (List R)} {f g : Int → Nat} (hf : Numb S f) (hg : Numb S g) (c : Int) (hc : Pt c) : f c = g c := Numb.one hf hg (c.toNat + 1) c hc (by have := hc.1; omega)
theorem Numb.cong {S T : List (List R)} {f : Int → Nat} (h : Numb S f) (e : ∀ a b, Pt a → Pt b → (alike S a b ↔ alike T a b)) : Numb T f := ⟨fun a b ha hb => (h.tell a b ha hb).trans (e a b ha hb), h.met⟩

def gl (L : List (List R)) (i : Nat) : List R := L.getD i []
theorem gl_get {L : List (List R)} {i : Nat} (h : i < L.length) : gl L i = L[i] := by
  unfold gl; rw [List.getD_eq_getElem?_getD, List.getElem?_eq_getElem h]; rfl
/-- L are the classes, by these numbers. -/
structure RowsOf (num : Int → Nat) (L : List (List R)) : Prop where
  lt : ∀ c, Pt c → num c < L.length
  all : ∀ i, i < L.length → ∃ c, Pt c ∧ num c = i
  right : ∀ i, i < L.length → Rt (gl L i)
  has : ∀ i, i < L.length → ∀ c, Has (gl L i) c ↔ Pt c ∧ num c = i
/-- L are the classes by S. -/
def Parts (S L : List (List R)) : Prop := ∃ num, Numb S num ∧ RowsOf num L
theorem RowsOf.pos {num : Int → Nat} {L : List (List R)} (h : RowsOf num L) : 0 < L.length := Nat.lt_of_le_of_lt (Nat.zero_le _) (h.lt 0 ⟨Int.le_refl _, by omega⟩)
theorem rowsOf_le {f g : Int → Nat} {L M : List (List R)} (hf : RowsOf f L) (hg : RowsOf g M) (e : ∀ c, Pt c → f c = g c) : L.length ≤ M.length := by
  have hp := hf.pos
  obtain ⟨c, hc, h⟩ := hf.all (L.length - 1) (by omega)
  have := hg.lt c hc
  have := e c hc
  omega
theorem rowsOf_one {f g : Int → Nat} {L M : List (List R)} (hf : RowsOf f L) (hg : RowsOf g M) (e : ∀ c, Pt c → f c = g c) : L = M := by
  have hl : L.length = M.length := Nat.le_antisymm (rowsOf_le hf hg e) (rowsOf_le hg hf fun c hc => (e c hc).symm)
  refine List.ext_getElem hl fun i h1 h2 => ?_
  rw [← gl_get h1, ← gl_get h2]
  refine (hf.right i h1).one (hg.right i h2) fun c => ?_
  rw [hf.has i h1, hg.has i h2]
  constructor
  · rintro ⟨a, b⟩; exact ⟨a, (e c a).symm.trans b⟩
  · rintro ⟨a, b⟩; exact ⟨a, (e c a).trans b⟩
theorem Parts.one {S L M : List (List R)} (h : Parts S L) (k : Parts S M) : L = M := by
  obtain ⟨f, hf, hL⟩ := h
  obtain ⟨g, hg, hM⟩ := k
  exact rowsOf_one hL hM (hf.same hg)
theorem Parts.cong {S T L : List (List R)} (h : Parts S L) (e : ∀ a b, Pt a → Pt b → (alike S a b ↔ alike T a b)) : Parts T L := by
  obtain ⟨f, hf, hL⟩ := h
  exact ⟨f, hf.cong e, hL⟩
theorem More.cong {S T : List (List R)} (h : More S) (e : ∀ a b, Pt a → Pt b → (alike S a b ↔ alike T a b)) : More T := by
  obtain ⟨P, h1, h2, h3⟩ := h
  exact ⟨P, h1, h2, List.Pairwise.imp_of_mem (fun {a b} ha hb hn hal => hn ((e a b (h2 a ha) (h2 b hb)).2 hal)) h3⟩
theorem nodup_le : ∀ (n : Nat) (l : List Nat), l.Nodup → (∀ x ∈ l, x < n) → l.length ≤ n
  | 0, l, _, h => by
    cases l with
    | nil => exact Nat.le_refl _
    | cons x l => exact absurd (h x (by simp)) (by omega)
  | n + 1, l, hd, h => by
    by_cases hm : n ∈ l
    · have h1 := List.length_erase_of_mem hm
      have h2 := nodup_le n (l.erase n) (hd.erase n) fun x hx => by
        have := (hd.mem_erase_iff).1 hx
        have := h x this.2
        omega
      omega
    · have := nodup_le n l hd fun x hx => by
        have := h x hx
        have : x ≠ n := fun e => hm (e ▸ hx)
        omega
      omega
theorem More.not {S L : List (List R)} (h : More S) (k : Parts S L) : 60 < L.length := by
  obtain ⟨P, h1, h2, h3⟩ := h
  obtain ⟨f, hf, hL⟩ := k
  have hd : (P.map f).Nodup := by
    unfold List.Nodup
    rw [List.pairwise_map]
    exact List.Pairwise.imp_of_mem (fun {a b} ha hb hn e => hn ((hf.tell a b (h2 a ha) (h2 b hb)).1 e)) h3
  have := nodup_le L.length _ hd fun x hx => by
    obtain ⟨c, hc, rfl⟩ := List.mem_map.1 hx
    exact hL.lt c (h2 c hc)
  rw [List.length_map] at this
  omega

/-! ### numbers of pieces -/
theorem nm_le : ∀ {l : List Nat} {n m : Nat}, Nm n l m → n ≤ m
  | [], n, m, h => Nat.le_of_eq h
  | k :: l, n, m, h => by have := nm_le h.2; split at this <;> omega
theorem nm_lt : ∀ {l : List Nat} {n m : Nat}, Nm n l m → ∀ x ∈ l, x < m
  | [], _, _, _, x, hx => by simp at hx
  | k :: l, n, m, h, x, hx => by
    rcases List.mem_cons.1 hx with rfl | hx
    · have := nm_le h.2
      have := h.1
      split at * <;> omega
    · exact nm_lt h.2 x hx
theorem nm_all : ∀ {l : List Nat} {n m : Nat}, Nm n l m → ∀ k, n ≤ k → k < m → k ∈ l
  | [], n, m, h, k, h1, h2 => by have e : n = m := h; omega
  | x :: l, n, m, h, k, h1, h2 => by
    by_cases e : k = x
    · exact e ▸ List.mem_cons_self
    · refine List.mem_cons_of_mem _ (nm_all h.2 k ?_ h2)
      have := h.1
      split <;> omega
theorem nm_met : ∀ {l : List (Int × Nat)} {p : Int × Nat} {n m : Nat}, Wf (p :: l) → Nm n ((p :: l).map Prod.snd) m → ∀ c, p.1 ≤ c → ∀ k, n ≤ k → k < cls (p :: l) c → ∃ d, p.1 ≤ d ∧ d < c ∧ cls (p :: l) d = k
  | [], p, n, m, _, h, c, _, k, h1, h2 => by
    have := h.1
    have e : cls [p] c = p.2 := rfl
    omega
  | q :: l, p, n, m, hw, h, c, hc, k, h1, h2 => by
    have hlt := hw.1
    by_cases hq : c < q.1
    · have e : cls (p :: q :: l) c = p.2 := by rw [cls, if_pos hq]
      have := h.1
      omega
    · have e : cls (p :: q :: l) c = cls (q :: l) c := cls_next (by omega)
      rw [e] at h2
      by_cases hk : (if p.2 = n then n + 1 else n) ≤ k
      · obtain ⟨d, a1, a2, a3⟩ := nm_met hw.2.2 h.2 c (by omega) k hk h2
        exact ⟨d, by omega, a2, by rw [cls_next a1]; exact a3⟩
      · refine ⟨p.1, Int.le_refl _, by omega, ?_⟩
        rw [cls, if_pos hlt]
        split at hk <;> omega
theorem Good.numb {S : List (List R)} {ps : List (Int × Nat)} {n : Nat} (h : Good S ps n) : Numb S (cls ps) := by
  refine ⟨h.tell, fun c hc k hk => ?_⟩
  obtain ⟨a, l, rfl⟩ := h.start
  obtain ⟨d, h1, h2, h3⟩ := nm_met h.wf h.nm c hc.1 k (Nat.zero_le _) hk
  exact ⟨d, ⟨h1, by have := hc.2; omega⟩, h2, h3⟩

/-! ### rows of pieces -/
/-- each piece as a range, with its class. -/
def rng : List (Int × Nat) → List (R × Nat)
  | [] => []
  | p :: l => ((p.1, ends (p :: l)), p.2) :: rng l
theorem rng_length : ∀ l, (rng l).length = l.length
  | [] => rfl
  | p :: l => by rw [rng, List.length_cons, rng_length l, List.length_cons]
def rowOf (q : List (R × Nat)) (i : Nat) : List R := (q.filter fun x => x.2 == i).map Prod.fst
theorem rowOf_nil (i : Nat) : rowOf [] i = [] := rfl
theorem rowOf_cons (x : R × Nat) (q : List (R × Nat)) (i : Nat) : rowOf (x :: q) i = if x.2 = i then x.1 :: rowOf q i else rowOf q i := by
  unfold rowOf
  rw [List.filter_cons]
  by_cases h : x.2 = i
  · rw [if_pos h, if_pos (by simpa using h), List.map_cons]
  · rw [if_neg h, if_neg (by simpa using h)]
theorem rowOf_snoc (x : R × Nat) (q : List (R × Nat)) (i : Nat) : rowOf (q ++ [x]) i = if x.2 = i then rowOf q i ++ [x.1] else rowOf q i := by
  unfold rowOf
  rw [List.filter_append, List.map_append]
  by_cases h : x.2 = i
  · rw [if_pos h]; simp [h]
  · rw [if_neg h]; simp [h]
theorem rowOf_length (q : List (R × Nat)) (i : Nat) : (rowOf q i).length ≤ q.length := by
  unfold rowOf; rw [List.length_map]; exact List.length_filter_le _ _
theorem rowOf_right (i : Nat) : ∀ (l : List (Int × Nat)) (p : Int × Nat) (last : Int), Wf (p :: l) → (last + 1 < p.1 ∨ (last < p.1 ∧ p.2 ≠ i)) → RF last (rowOf (rng (p :: l)) i)
  | [], p, last, h, hl => by
    rw [rng, rowOf_cons]
    have h' : p.1 ≤ 1114111 := h
    simp only
    split
    · exact ⟨by show last + 1 < p.1; omega, h', Int.le_refl _, trivial⟩
    · trivial
  | q :: l, p, last, h, hl => by
    have hlt := h.1
    have hne := h.2.1
    rw [rng, rowOf_cons]
    simp only
    have he : ends (p :: q :: l) = q.1 - 1 := rfl
    have hq := Wf.head_le h.2.2
    split
    · rename_i e
      refine ⟨by show last + 1 < p.1; omega, by rw [he]; show p.1 ≤ q.1 - 1; omega, by rw [he]; show q.1 - 1 ≤ _; omega, ?_⟩
      exact rowOf_right i l q _ h.2.2 (.inr ⟨by rw [he]; show q.1 - 1 < q.1; omega, fun e2 => hne (e.trans e2.symm)⟩)
    · exact rowOf_right i l q _ h.2.2 (.inl (by omega))
theorem rowOf_cov (i : Nat) : ∀ (l : List (Int × Nat)) (p : Int × Nat), Wf (p :: l) → ∀ c, Cov (rowOf (rng (p :: l)) i) c ↔ p.1 ≤ c ∧ c ≤ 1114111 ∧ cls (p :: l) c = i
  | [], p, h, c => by
    rw [rng, rowOf_cons]
    simp only
    have e : cls [p] c = p.2 := rfl
    rw [e]
    split
    · rename_i h2
      rw [cov_cons]
      show (p.1 ≤ c ∧ c ≤ 1114111) ∨ Cov (rowOf [] i) c ↔ _
      simp [rowOf_nil, cov_nil, h2]
    · rename_i h2
      show Cov (rowOf [] i) c ↔ _
      simp [rowOf_nil, cov_nil, h2]
  | q :: l, p, h, c => by
    have hlt := h.1
    have hq := Wf.head_le h.2.2
    have ih := rowOf_cov i l q h.2.2 c
    rw [rng, rowOf_cons]
    simp only
    have he : ends (p :: q :: l) = q.1 - 1 := rfl
    by_cases hc : c < q.1
    · have e : cls (p :: q :: l) c = p.2 := by rw [cls, if_pos hc]
      rw [e]
      split
      · rename_i h2
        rw [cov_cons, ih, he]
        constructor
        · rintro (⟨a, b⟩ | ⟨a, b, d⟩)
          · exact ⟨a, by simp only at b; omega, h2⟩
          · omega
        · rintro ⟨a, b, d⟩
          exact .inl ⟨a, by show c ≤ q.1 - 1; omega⟩
      · rename_i h2
        rw [ih]
        constructor
        · rintro ⟨a, b, d⟩; omega
        · rintro ⟨a, b, d⟩; exact absurd d h2
    · have e : cls (p :: q :: l) c = cls (q :: l) c := cls_next (by omega)
      rw [e]
      split
      · rw [cov_cons, ih, he]
        constructor
        · rintro (⟨a, b⟩ | ⟨a, b, d⟩)
          · simp only at b; omega
          · exact ⟨by omega, b, d⟩
        · rintro ⟨a, b, d⟩
          exact .inr ⟨by omega, b, d⟩
      · rw [ih]
        constructor
        · rintro ⟨a, b, d⟩; exact ⟨by omega, b, d⟩
        · rintro ⟨a, b, d⟩; exact ⟨by omega, b, d⟩
/-- the rows of pieces. -/
def setsOf (ps : List (Int × Nat)) (n : Nat) : List (List R) := (List.range n).map (rowOf (rng ps))
theorem setsOf_length (ps : List (Int × Nat)) (n : Nat) : (setsOf ps n).length = n := by simp [setsOf]
theorem setsOf_get (ps : List (Int × Nat)) {n i : Nat} (h : i < n) : gl (setsOf ps n) i = rowOf (rng ps) i := by
  rw [gl_get (by rw [setsOf_length]; exact h)]
  simp [setsOf]
theorem Good.rows {S : List (List R)} {ps : List (Int × Nat)} {n : Nat} (h : Good S ps n) : RowsOf (cls ps) (setsOf ps n) := by
  obtain ⟨a, l, rfl⟩ := h.start
  refine ⟨fun c hc => ?_, fun i hi => ?_, fun i hi => ?_, fun i hi c => ?_⟩
  · rw [setsOf_length]
    obtain ⟨x, hx, e⟩ := cls_mem l (0, a) c
    rw [← e]
    exact nm_lt h.nm x.2 (List.mem_map_of_mem hx)
  · rw [setsOf_length] at hi
    obtain ⟨x, hx, e⟩ := List.mem_map.1 (nm_all h.nm i (Nat.zero_le _) hi)
    have h1 := Wf.above h.wf x hx
    exact ⟨x.1, h1, (cls_at h.wf x hx).trans e⟩
  · rw [setsOf_length] at hi
    rw [setsOf_get _ hi]
    exact rowOf_right i l (0, a) (-2) h.wf (.inl (by show (-2 : Int) + 1 < 0; omega))
  · rw [setsOf_length] at hi
    rw [setsOf_get _ hi, Rt.has (rowOf_right i l (0, a) (-2) h.wf (.inl (by show (-2 : Int) + 1 < 0; omega))), rowOf_cov i l (0, a) h.wf]
    constructor
    · rintro ⟨h1, h2, h3⟩; exact ⟨⟨h1, h2⟩, h3⟩
    · rintro ⟨⟨h1, h2⟩, h3⟩; exact ⟨h1, h2, h3⟩
theorem Good.parts {S : List (List R)} {ps : List (Int × Nat)} {n : Nat} (h : Good S ps n) : Parts S (setsOf ps n) := ⟨_, h.numb, h.rows⟩
end Tnr


namespace Tnr

/-- of a row its least code point, or -1. -/
def fst1 (l : List R) : Int := if (lst l).2 then (lst l).1 else -1
/-- have two rows a code point in common? -/
def Meets (a s : List R) : Prop := ∃ c, Has a c ∧ Has s c
noncomputable def meetB (a s : List R) : Bool := @decide (Meets a s) (Classical.propDecidable _)
theorem meetB_iff (a s : List R) : meetB a s = true ↔ Meets a s := by unfold meetB; simp
noncomputable def witN (L : List (List R)) (s : List R) : List Nat := (List.range L.length).filter fun k => meetB (gl L k) s
noncomputable def wit (L : List (List R)) (s : List R) : List Int := (witN L s).map fun k => Int.ofNat k
theorem wit_length (L : List (List R)) (s : List R) : (wit L s).length ≤ L.length := by
  unfold wit witN
  rw [List.length_map]
  exact Nat.le_trans (List.length_filter_le _ _) (by simp)
/-- which row has a number first. -/
def ClsR (L : List (List R)) (c : Int) (k : Nat) (b : Bool) : Prop :=
  (b = true ∧ k < L.length ∧ Has (gl L k) c ∧ ∀ i, i < k → ¬ Has (gl L i) c) ∨ (b = false ∧ k = 0 ∧ ∀ i, i < L.length → ¬ Has (gl L i) c)
theorem ClsR.one {L : List (List R)} {c : Int} {k m : Nat} {b d : Bool} (h : ClsR L c k b) (g : ClsR L c m d) : k = m ∧ b = d := by
  rcases h with ⟨h1, h2, h3, h4⟩ | ⟨h1, h2, h3⟩ <;> rcases g with ⟨g1, g2, g3, g4⟩ | ⟨g1, g2, g3⟩
  · refine ⟨?_, h1.trans g1.symm⟩
    rcases Nat.lt_trichotomy k m with h | h | h
    · exact absurd h3 (g4 k h)
    · exact h
    · exact absurd g3 (h4 m h)
  · exact absurd h3 (g3 k h2)
  · exact absurd g3 (h3 m g2)
  · exact ⟨h2.trans g2.symm, h1.trans g1.symm⟩
theorem RowsOf.cls {num : Int → Nat} {L : List (List R)} (h : RowsOf num L) {c : Int} {k : Nat} {b : Bool} (g : ClsR L c k b) : (b = true ∧ Pt c ∧ k = num c) ∨ (b = false ∧ ¬ Pt c) := by
  rcases g with ⟨g1, g2, g3, _⟩ | ⟨g1, _, g3⟩
  · have := (h.has k g2 c).1 g3
    exact .inl ⟨g1, this.1, this.2.symm⟩
  · refine .inr ⟨g1, fun hp => ?_⟩
    exact g3 _ (h.lt c hp) ((h.has _ (h.lt c hp) c).2 ⟨hp, rfl⟩)
theorem RowsOf.some {num : Int → Nat} {L : List (List R)} (h : RowsOf num L) {i : Nat} (hi : i < L.length) : (lst (gl L i)).2 = true := by
  obtain ⟨c, hc, e⟩ := h.all i hi
  by_cases hl : (lst (gl L i)).2 = true
  · exact hl
  · exact absurd ((h.has i hi c).2 ⟨hc, e⟩) (lst_no (by simpa using hl) c)
theorem RowsOf.ne {num : Int → Nat} {L : List (List R)} (h : RowsOf num L) {i : Nat} (hi : i < L.length) : gl L i ≠ [] := by
  intro e
  obtain ⟨c, hc, e2⟩ := h.all i hi
  have := (h.has i hi c).2 ⟨hc, e2⟩
  rw [e] at this
  exact cov_nil c this.2.2
theorem RowsOf.fst {num : Int → Nat} {L : List (List R)} (h : RowsOf num L) {i : Nat} (hi : i < L.length) : Pt (fst1 (gl L i)) ∧ num (fst1 (gl L i)) = i ∧ ∀ c, Pt c → num c = i → fst1 (gl L i) ≤ c := by
  have hs := h.some hi
  have hy := lst_yes hs
  have e : fst1 (gl L i) = (lst (gl L i)).1 := by unfold fst1; rw [if_pos hs]
  rw [e]
  have h1 := (h.has i hi _).1 hy.1
  exact ⟨h1.1, h1.2, fun c hc e2 => hy.2 c ((h.has i hi c).2 ⟨hc, e2⟩)⟩
theorem RowsOf.rise {S : List (List R)} {num : Int → Nat} {L : List (List R)} (hn : Numb S num) (h : RowsOf num L) {i : Nat} (hi : i + 1 < L.length) : fst1 (gl L i) < fst1 (gl L (i + 1)) := by
  obtain ⟨h1, h2, _⟩ := h.fst hi
  obtain ⟨_, _, g3⟩ := h.fst (show i < L.length by omega)
  obtain ⟨d, hd, hlt, e⟩ := hn.met _ h1 i (by omega)
  have := g3 d hd e
  omega
theorem RowsOf.zero {S : List (List R)} {num : Int → Nat} {L : List (List R)} (hn : Numb S num) (h : RowsOf num L) : fst1 (gl L 0) = 0 := by
  obtain ⟨h1, h2, h3⟩ := h.fst h.pos
  have h0 : num 0 = 0 := by
    by_cases h0 : num 0 = 0
    · exact h0
    · obtain ⟨d, hd, hlt, _⟩ := hn.met 0 ⟨by omega, by omega⟩ 0 (by omega)
      have := hd.1; omega
  have := h3 0 ⟨by omega, by omega⟩ h0
  have := h1.1
  omega

/-! ### how many -/
theorem cnt_none {l : List R} (h : ∀ c, ¬ Has l c) : ∀ n, cnt l n = 0
  | 0 => rfl
  | n + 1 => by unfold cnt; rw [cnt_none h n, if_neg (h _)]
theorem has_flatten (L : List (List R)) (c : Int) : Has L.flatten c ↔ ∃ l ∈ L, Has l c := by
  induction L with
  | nil => simp [Has, Cov]
  | cons l L ih => rw [List.flatten_cons, has_append, ih]; simp
theorem has_take {num : Int → Nat} {L : List (List R)} (h : RowsOf num L) (k : Nat) (hk : k ≤ L.length) (c : Int) : Has (L.take k).flatten c ↔ Pt c ∧ num c < k := by
  rw [has_flatten]
  constructor
  · rintro ⟨l, hl, hc⟩
    obtain ⟨i, hi, e⟩ := List.mem_iff_getElem.1 hl
    rw [List.length_take] at hi
    rw [List.getElem_take, ← gl_get (by omega)] at e
    subst e
    have := (h.has i (by omega) c).1 hc
    exact ⟨this.1, by omega⟩
  · rintro ⟨hp, hn⟩
    refine ⟨gl L (num c), ?_, (h.has _ (by omega) c).2 ⟨hp, rfl⟩⟩
    rw [List.mem_iff_getElem]
    refine ⟨num c, by rw [List.length_take]; omega, ?_⟩
    rw [List.getElem_take, gl_get (by omega)]
/-- the sum of the first ones. -/
theorem RowsOf.sums {num : Int → Nat} {L : List (List R)} (h : RowsOf num L) {k : Nat} (hk : k < L.length) : mny (L.take (k + 1)).flatten = mny (L.take k).flatten + mny (gl L k) := by
  rw [mny_cnt, mny_cnt, mny_cnt]
  have e := cnt_sum (j := (L.take (k + 1)).flatten) (m := []) (a := (L.take k).flatten) (b := gl L k) (fun c => by
    rw [has_take h _ (by omega), has_take h _ (by omega), h.has k hk]
    constructor
    · rintro ⟨a, b⟩
      by_cases e : num c = k
      · exact .inr ⟨a, e⟩
      · exact .inl ⟨a, by omega⟩
    · rintro (⟨a, b⟩ | ⟨a, b⟩)
      · exact ⟨a, by omega⟩
      · exact ⟨a, by omega⟩) (fun c => by
    rw [has_take h _ (by omega), h.has k hk]
    constructor
    · intro q; exact absurd q.2.2 (cov_nil c)
    · rintro ⟨⟨_, a⟩, _, b⟩; omega) 1114112
  rw [cnt_nil] at e
  omega
theorem RowsOf.whole {num : Int → Nat} {L : List (List R)} (h : RowsOf num L) : mny L.flatten = 1114112 := by
  have e := cnt_all (n := []) (a := L.flatten) (fun c => by
    have := has_take h L.length (Nat.le_refl _) c
    rw [List.take_length] at this
    rw [this]
    constructor
    · intro q; exact absurd q.2.2 (cov_nil c)
    · rintro ⟨a, b, d⟩; exact absurd ⟨⟨a, b⟩, h.lt c ⟨a, b⟩⟩ d) 1114112 (Nat.le_refl _)
  rw [cnt_nil] at e
  rw [mny_cnt]
  omega

/-! ### those that meet a set make it -/
theorem mem_witN {L : List (List R)} {s : List R} {k : Nat} : k ∈ witN L s ↔ k < L.length ∧ Meets (gl L k) s := by
  unfold witN
  rw [List.mem_filter, List.mem_range, meetB_iff]
theorem RowsOf.made {S : List (List R)} {num : Int → Nat} {L : List (List R)} (hn : Numb S num) (h : RowsOf num L) {s : List R} (hs : s ∈ S) : cn ((witN L s).map fun k => gl L k).flatten = cn s := by
  rw [cn_eq]
  intro c
  rw [has_flatten]
  constructor
  · rintro ⟨l, hl, hc⟩
    obtain ⟨k, hk, rfl⟩ := List.mem_map.1 hl
    obtain ⟨hk1, d, hd1, hd2⟩ := mem_witN.1 hk
    have a := (h.has k hk1 c).1 hc
    have b := (h.has k hk1 d).1 hd1
    exact ((hn.tell c d a.1 b.1).1 (a.2.trans b.2.symm) s hs).2 hd2
  · intro hc
    have hp : Pt c := ⟨hc.1, hc.2.1⟩
    have hl := h.lt c hp
    have hh := (h.has _ hl c).2 ⟨hp, rfl⟩
    exact ⟨_, List.mem_map.2 ⟨num c, mem_witN.2 ⟨hl, c, hh, hc⟩, rfl⟩, hh⟩

/-! ### other sets that tell the same apart -/
theorem gl_mem {L : List (List R)} {i : Nat} (h : i < L.length) : gl L i ∈ L := by rw [gl_get h]; exact List.getElem_mem h
theorem RowsOf.alike {num : Int → Nat} {L : List (List R)} (h : RowsOf num L) {a b : Int} (ha : Pt a) (hb : Pt b) : alike L a b ↔ num a = num b := by
  constructor
  · intro q
    have := (q _ (gl_mem (h.lt a ha))).1 ((h.has _ (h.lt a ha) a).2 ⟨ha, rfl⟩)
    exact ((h.has _ (h.lt a ha) b).1 this).2.symm
  · intro e l hl
    obtain ⟨i, hi, rfl⟩ := List.mem_iff_getElem.1 hl
    rw [← gl_get hi, h.has i hi, h.has i hi]
    constructor
    · rintro ⟨_, q⟩; exact ⟨hb, e.symm.trans q⟩
    · rintro ⟨_, q⟩; exact ⟨ha, e.trans q⟩
theorem Parts.alike {S L : List (List R)} (h : Parts S L) {a b : Int} (ha : Pt a) (hb : Pt b) : alike L a b ↔ alike S a b := by
  obtain ⟨num, hn, hr⟩ := h
  rw [hr.alike ha hb, hn.tell a b ha hb]
theorem Parts.again {S L M : List (List R)} (h : Parts S L) (g : Parts L M) : M = L := Parts.one (g.cong fun _ _ ha hb => h.alike ha hb) h
theorem Parts.few {S L : List (List R)} (h : Parts S L) (hl : L.length ≤ 60) : ¬ More L := by
  intro hm
  have := More.not (hm.cong fun _ _ ha hb => h.alike ha hb) h
  omega
/-- turned about, and the complements too. -/
theorem alike_other (S : List (List R)) (k : Nat) (a b : Int) (ha : Pt a) (hb : Pt b) : alike ((S.drop k ++ S.take k) ++ S.map ng) a b ↔ alike S a b := by
  constructor
  · intro h s hs
    refine h s (List.mem_append_left _ ?_)
    rw [← List.take_append_drop k S, List.mem_append] at hs
    exact List.mem_append.2 hs.symm
  · intro h s hs
    rcases List.mem_append.1 hs with hs | hs
    · refine h s ?_
      rw [← List.take_append_drop k S, List.mem_append]
      exact (List.mem_append.1 hs).symm
    · obtain ⟨t, ht, rfl⟩ := List.mem_map.1 hs
      rw [ng_has, ng_has]
      have := h t ht
      have a1 := ha.1
      have a2 := ha.2
      have b1 := hb.1
      have b2 := hb.2
      constructor
      · rintro ⟨_, _, q⟩; exact ⟨b1, b2, fun r => q (this.2 r)⟩
      · rintro ⟨_, _, q⟩; exact ⟨a1, a2, fun r => q (this.1 r)⟩
end Tnr

