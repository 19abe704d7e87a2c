/- Plain lemmas on pieces: code points cut to pieces, each with its class; two such put together; numbered as they are met. Of no program. -/
import Derived.Test.YtaeodgeefjmamaaGreatRa
namespace Tnr

/-- the class of a code point, of pieces by their beginnings. -/
def cls {α : Type} [Inhabited α] : List (Int × α) → Int → α
  | [], _ => default
  | [p], _ => p.2
  | p :: q :: l, c => if c < q.1 then p.2 else cls (q :: l) c
/-- rising, of code points, two side by side of two classes. -/
def Wf {α : Type} : List (Int × α) → Prop
  | [] => False
  | [p] => p.1 ≤ 1114111
  | p :: q :: l => p.1 < q.1 ∧ p.2 ≠ q.2 ∧ Wf (q :: l)
/-- the last code point of the first piece. -/
def ends {α : Type} : List (Int × α) → Int
  | _ :: q :: _ => q.1 - 1
  | _ => 1114111

theorem Wf.head_le {α : Type} : ∀ {l : List (Int × α)} {p : Int × α}, Wf (p :: l) → p.1 ≤ 1114111
  | [], _, h => h
  | _ :: _, _, h => by have := Wf.head_le h.2.2; have := h.1; omega
theorem Wf.tail {α : Type} {p q : Int × α} {l : List (Int × α)} (h : Wf (p :: q :: l)) : Wf (q :: l) := h.2.2
theorem Wf.ends_ge {α : Type} : ∀ {l : List (Int × α)} {p : Int × α}, Wf (p :: l) → p.1 ≤ ends (p :: l)
  | [], _, h => h
  | q :: _, p, h => by have := h.1; show p.1 ≤ q.1 - 1; omega
theorem Wf.ends_le {α : Type} : ∀ {l : List (Int × α)} {p : Int × α}, Wf (p :: l) → ends (p :: l) ≤ 1114111
  | [], _, _ => Int.le_refl _
  | q :: _, p, h => by have := Wf.head_le h.2.2; show q.1 - 1 ≤ _; omega
theorem Wf.single {α : Type} : ∀ {l : List (Int × α)} {p : Int × α}, Wf (p :: l) → ends (p :: l) = 1114111 → l = []
  | [], _, _, _ => rfl
  | q :: _, p, h, e => by have := Wf.head_le h.2.2; have e' : q.1 - 1 = 1114111 := e; omega
theorem cls_first {α : Type} [Inhabited α] : ∀ {l : List (Int × α)} {p : Int × α} {c : Int}, c ≤ ends (p :: l) → cls (p :: l) c = p.2
  | [], _, _, _ => rfl
  | q :: l, p, c, h => by
    have h' : c ≤ q.1 - 1 := h
    unfold cls
    rw [if_pos (by omega)]
theorem cls_next {α : Type} [Inhabited α] {p q : Int × α} {l : List (Int × α)} {c : Int} (h : q.1 ≤ c) : cls (p :: q :: l) c = cls (q :: l) c := by
  rw [cls]
  rw [if_neg (by omega)]
theorem Wf.above {α : Type} : ∀ {l : List (Int × α)} {p : Int × α}, Wf (p :: l) → ∀ x ∈ p :: l, p.1 ≤ x.1 ∧ x.1 ≤ 1114111
  | [], p, h, x, hx => by
    rw [List.mem_singleton] at hx; subst hx; exact ⟨Int.le_refl _, h⟩
  | q :: l, p, h, x, hx => by
    rcases List.mem_cons.1 hx with rfl | hx
    · exact ⟨Int.le_refl _, Wf.head_le h⟩
    · have := Wf.above h.2.2 x hx
      have := h.1
      omega
/-- each piece's beginning is of its class. -/
theorem cls_at {α : Type} [Inhabited α] : ∀ {l : List (Int × α)} {p : Int × α}, Wf (p :: l) → ∀ x ∈ p :: l, cls (p :: l) x.1 = x.2
  | [], p, _, x, hx => by
    rw [List.mem_singleton] at hx; subst hx; rfl
  | q :: l, p, h, x, hx => by
    rcases List.mem_cons.1 hx with rfl | hx
    · exact cls_first (Wf.ends_ge h)
    · rw [cls_next (Wf.above h.2.2 x hx).1]
      exact cls_at h.2.2 x hx

/-- pieces of both. -/
def mergeP {α β : Type} : List (Int × α) → List (Int × β) → List (Int × (α × β))
  | p :: l, q :: m => (max p.1 q.1, (p.2, q.2)) :: mergeP (if ends (p :: l) ≤ ends (q :: m) then l else p :: l) (if ends (q :: m) ≤ ends (p :: l) then m else q :: m)
  | _, _ => []
termination_by l m => l.length + m.length
decreasing_by
  split <;> split <;> simp only [List.length_cons] <;> omega
theorem mergeP_nil {α β : Type} (m : List (Int × β)) : mergeP ([] : List (Int × α)) m = [] := by
  unfold mergeP; cases m <;> rfl
theorem mergeP_cons {α β : Type} (p : Int × α) (l : List (Int × α)) (q : Int × β) (m : List (Int × β)) :
    mergeP (p :: l) (q :: m) = (max p.1 q.1, (p.2, q.2)) :: mergeP (if ends (p :: l) ≤ ends (q :: m) then l else p :: l) (if ends (q :: m) ≤ ends (p :: l) then m else q :: m) := by
  rw [mergeP]

def MP {α β : Type} [Inhabited α] [Inhabited β] (p : Int × α) (l : List (Int × α)) (q : Int × β) (m : List (Int × β)) : Prop :=
  Wf (mergeP (p :: l) (q :: m)) ∧ (mergeP (p :: l) (q :: m)).length ≤ l.length + m.length + 1 ∧
    ∀ c, max p.1 q.1 ≤ c → c ≤ 1114111 → cls (mergeP (p :: l) (q :: m)) c = (cls (p :: l) c, cls (q :: m) c)
theorem merge_step {α β : Type} [Inhabited α] [Inhabited β] {x : Int × (α × β)} {r : Int × α} {l : List (Int × α)} {s : Int × β} {m : List (Int × β)} {p : Int × α} {q : Int × β} {l0 : List (Int × α)} {m0 : List (Int × β)}
    (hx : x = (max p.1 q.1, (p.2, q.2))) (h : MP r l s m) (h1 : x.1 < max r.1 s.1) (h2 : x.2 ≠ (r.2, s.2))
    (h3 : ∀ c, c < max r.1 s.1 → max p.1 q.1 ≤ c → cls (p :: l0) c = p.2 ∧ cls (q :: m0) c = q.2)
    (h4 : ∀ c, max r.1 s.1 ≤ c → cls (p :: l0) c = cls (r :: l) c ∧ cls (q :: m0) c = cls (s :: m) c) (e : mergeP (p :: l0) (q :: m0) = x :: mergeP (r :: l) (s :: m)) (hn : l.length + m.length < l0.length + m0.length) : MP p l0 q m0 := by
  obtain ⟨a1, a2, a3⟩ := h
  unfold MP
  rw [e]
  rw [mergeP_cons] at a1 a2 a3 ⊢
  refine ⟨⟨h1, h2, a1⟩, by rw [List.length_cons]; omega, fun c hc hm => ?_⟩
  rw [cls]
  simp only
  by_cases hlt : c < max r.1 s.1
  · rw [if_pos hlt, (h3 c hlt hc).1, (h3 c hlt hc).2, hx]
  · rw [if_neg hlt, a3 c (by omega) hm, (h4 c (by omega)).1, (h4 c (by omega)).2]
theorem mergeP_spec {α β : Type} [Inhabited α] [Inhabited β] : ∀ (n : Nat) (l : List (Int × α)) (m : List (Int × β)) (p : Int × α) (q : Int × β), l.length + m.length ≤ n → Wf (p :: l) → Wf (q :: m) → p.1 ≤ ends (q :: m) → q.1 ≤ ends (p :: l) → MP p l q m
  | n, [], [], p, q, _, hl, hm, _, _ => by
    have e : mergeP [p] [q] = [(max p.1 q.1, (p.2, q.2))] := by
      rw [mergeP_cons]; simp [ends, mergeP_nil]
    unfold MP
    rw [e]
    have h1 : p.1 ≤ 1114111 := hl
    have h2 : q.1 ≤ 1114111 := hm
    exact ⟨by show max p.1 q.1 ≤ 1114111; omega, by simp, fun c _ _ => rfl⟩
  | 0, _ :: _, _, _, _, hn, _, _, _, _ => absurd hn (by simp)
  | 0, [], _ :: _, _, _, hn, _, _, _, _ => absurd hn (by simp)
  | n + 1, p' :: l, [], p, q, hn, hl, hm, h1, h2 => by
    have hp' := Wf.head_le hl.2.2
    have h2' : q.1 ≤ p'.1 - 1 := h2
    have hlt := hl.1
    have e : mergeP (p :: p' :: l) [q] = (max p.1 q.1, (p.2, q.2)) :: mergeP (p' :: l) [q] := by
      rw [mergeP_cons]
      have k1 : ends (p :: p' :: l) ≤ ends [q] := by show p'.1 - 1 ≤ 1114111; omega
      have k2 : ¬ ends [q] ≤ ends (p :: p' :: l) := by show ¬ 1114111 ≤ p'.1 - 1; omega
      rw [if_pos k1, if_neg k2]
    refine merge_step rfl (mergeP_spec n l [] p' q (by simp only [List.length_cons, List.length_nil] at hn ⊢; omega) hl.2.2 hm (by show p'.1 ≤ 1114111; omega) (by have := Wf.ends_ge hl.2.2; omega)) (by show max p.1 q.1 < max p'.1 q.1; omega) (fun h => hl.2.1 (Prod.mk.inj h).1) (fun c h3 h4 => ⟨cls_first (by show c ≤ p'.1 - 1; omega), rfl⟩) (fun c h3 => ⟨cls_next (by omega), rfl⟩) e (by simp)
  | n + 1, [], q' :: m, p, q, hn, hl, hm, h1, h2 => by
    have hp' := Wf.head_le hm.2.2
    have h2' : p.1 ≤ q'.1 - 1 := h1
    have hlt := hm.1
    have e : mergeP [p] (q :: q' :: m) = (max p.1 q.1, (p.2, q.2)) :: mergeP [p] (q' :: m) := by
      rw [mergeP_cons]
      have k1 : ends (q :: q' :: m) ≤ ends [p] := by show q'.1 - 1 ≤ 1114111; omega
      have k2 : ¬ ends [p] ≤ ends (q :: q' :: m) := by show ¬ 1114111 ≤ q'.1 - 1; omega
      rw [if_pos k1, if_neg k2]
    refine merge_step rfl (mergeP_spec n [] m p q' (by simp only [List.length_cons, List.length_nil] at hn ⊢; omega) hl hm.2.2 (by have := Wf.ends_ge hm.2.2; omega) (by show q'.1 ≤ 1114111; omega)) (by show max p.1 q.1 < max p.1 q'.1; omega) (fun h => hm.2.1 (Prod.mk.inj h).2) (fun c h3 h4 => ⟨rfl, cls_first (by show c ≤ q'.1 - 1; omega)⟩) (fun c h3 => ⟨rfl, cls_next (by omega)⟩) e (by simp)
  | n + 1, p' :: l, q' :: m, p, q, hn, hl, hm, h1, h2 => by
    have hp' := Wf.head_le hl.2.2
    have hq' := Wf.head_le hm.2.2
    have h1' : p.1 ≤ q'.1 - 1 := h1
    have h2' : q.1 ≤ p'.1 - 1 := h2
    have hlp := hl.1
    have hlq := hm.1
    rcases Int.lt_trichotomy p'.1 q'.1 with k | k | k
    · have e : mergeP (p :: p' :: l) (q :: q' :: m) = (max p.1 q.1, (p.2, q.2)) :: mergeP (p' :: l) (q :: q' :: m) := by
        rw [mergeP_cons]
        have k1 : ends (p :: p' :: l) ≤ ends (q :: q' :: m) := by show p'.1 - 1 ≤ q'.1 - 1; omega
        have k2 : ¬ ends (q :: q' :: m) ≤ ends (p :: p' :: l) := by show ¬ q'.1 - 1 ≤ p'.1 - 1; omega
        rw [if_pos k1, if_neg k2]
      refine merge_step rfl (mergeP_spec n l (q' :: m) p' q (by simp only [List.length_cons] at hn ⊢; omega) hl.2.2 hm (by show p'.1 ≤ q'.1 - 1; omega) (by have := Wf.ends_ge hl.2.2; omega)) (by show max p.1 q.1 < max p'.1 q.1; omega) (fun h => hl.2.1 (Prod.mk.inj h).1) (fun c h3 h4 => ⟨cls_first (by show c ≤ p'.1 - 1; omega), cls_first (by show c ≤ q'.1 - 1; omega)⟩) (fun c h3 => ⟨cls_next (by omega), rfl⟩) e (by simp)
    · have e : mergeP (p :: p' :: l) (q :: q' :: m) = (max p.1 q.1, (p.2, q.2)) :: mergeP (p' :: l) (q' :: m) := by
        rw [mergeP_cons]
        have k1 : ends (p :: p' :: l) ≤ ends (q :: q' :: m) := by show p'.1 - 1 ≤ q'.1 - 1; omega
        have k2 : ends (q :: q' :: m) ≤ ends (p :: p' :: l) := by show q'.1 - 1 ≤ p'.1 - 1; omega
        rw [if_pos k1, if_pos k2]
      refine merge_step rfl (mergeP_spec n l m p' q' (by simp only [List.length_cons] at hn ⊢; omega) hl.2.2 hm.2.2 (by have := Wf.ends_ge hm.2.2; omega) (by have := Wf.ends_ge hl.2.2; omega)) (by show max p.1 q.1 < max p'.1 q'.1; omega) (fun h => hl.2.1 (Prod.mk.inj h).1) (fun c h3 h4 => ⟨cls_first (by show c ≤ p'.1 - 1; omega), cls_first (by show c ≤ q'.1 - 1; omega)⟩) (fun c h3 => ⟨cls_next (by omega), cls_next (by omega)⟩) e (by simp; omega)
    · have e : mergeP (p :: p' :: l) (q :: q' :: m) = (max p.1 q.1, (p.2, q.2)) :: mergeP (p :: p' :: l) (q' :: m) := by
        rw [mergeP_cons]
        have k1 : ¬ ends (p :: p' :: l) ≤ ends (q :: q' :: m) := by show ¬ p'.1 - 1 ≤ q'.1 - 1; omega
        have k2 : ends (q :: q' :: m) ≤ ends (p :: p' :: l) := by show q'.1 - 1 ≤ p'.1 - 1; omega
        rw [if_neg k1, if_pos k2]
      refine merge_step rfl (mergeP_spec n (p' :: l) m p q' (by simp only [List.length_cons] at hn ⊢; omega) hl hm.2.2 (by have := Wf.ends_ge hm.2.2; omega) (by show q'.1 ≤ p'.1 - 1; omega)) (by show max p.1 q.1 < max p.1 q'.1; omega) (fun h => hm.2.1 (Prod.mk.inj h).2) (fun c h3 h4 => ⟨cls_first (by show c ≤ p'.1 - 1; omega), cls_first (by show c ≤ q'.1 - 1; omega)⟩) (fun c h3 => ⟨rfl, cls_next (by omega)⟩) e (by simp)

/-- what was met, each once, as it is met. -/
def keysOn {κ : Type} [DecidableEq κ] (ks : List κ) (p : Int × κ) : List κ := if p.2 ∈ ks then ks else ks ++ [p.2]
def keys {κ : Type} [DecidableEq κ] (ps : List (Int × κ)) : List κ := ps.foldl keysOn []
theorem keys_snoc {κ : Type} [DecidableEq κ] (ps : List (Int × κ)) (p : Int × κ) : keys (ps ++ [p]) = keysOn (keys ps) p := by simp [keys]
theorem snoc_ind {α : Type} {P : List α → Prop} (h0 : P []) (h1 : ∀ l x, P l → P (l ++ [x])) (l : List α) : P l := by
  rw [← List.reverse_reverse l]
  induction l.reverse with
  | nil => exact h0
  | cons x l ih => rw [List.reverse_cons]; exact h1 _ _ ih
theorem mem_keys {κ : Type} [DecidableEq κ] (ps : List (Int × κ)) : ∀ k, k ∈ keys ps ↔ ∃ p ∈ ps, p.2 = k := by
  induction ps using snoc_ind with
  | h0 => intro k; simp [keys]
  | h1 l x ih =>
    intro k
    rw [keys_snoc]
    unfold keysOn
    split
    · rename_i hm
      rw [ih]
      constructor
      · rintro ⟨p, hp, e⟩
        exact ⟨p, List.mem_append_left _ hp, e⟩
      · rintro ⟨p, hp, e⟩
        rw [List.mem_append, List.mem_singleton] at hp
        rcases hp with hp | rfl
        · exact ⟨p, hp, e⟩
        · rw [e] at hm
          exact (ih k).1 hm
    · rw [List.mem_append, List.mem_singleton, ih]
      constructor
      · rintro (⟨p, hp, e⟩ | e)
        · exact ⟨p, List.mem_append_left _ hp, e⟩
        · exact ⟨x, by simp, e.symm⟩
      · rintro ⟨p, hp, e⟩
        rw [List.mem_append, List.mem_singleton] at hp
        rcases hp with hp | rfl
        · exact .inl ⟨p, hp, e⟩
        · exact .inr e.symm
theorem keys_nodup {κ : Type} [DecidableEq κ] (ps : List (Int × κ)) : (keys ps).Nodup := by
  induction ps using snoc_ind with
  | h0 => simp [keys]
  | h1 l x ih =>
    rw [keys_snoc]
    unfold keysOn
    split
    · exact ih
    · rename_i hm
      rw [List.nodup_append]
      refine ⟨ih, by simp, ?_⟩
      intro a ha b hb e
      rw [List.mem_singleton] at hb
      subst hb; subst e
      exact hm ha
/-- numbers of the pieces. -/
def numd {κ : Type} [DecidableEq κ] (ps : List (Int × κ)) : List (Int × Nat) := ps.map fun p => (p.1, (keys ps).idxOf p.2)
theorem idx_keysOn {κ : Type} [DecidableEq κ] {ks : List κ} {k : κ} (p : Int × κ) (h : k ∈ ks) : (keysOn ks p).idxOf k = ks.idxOf k := by
  unfold keysOn
  split
  · rfl
  · rw [List.idxOf_append, if_pos h]
theorem numd_snoc {κ : Type} [DecidableEq κ] (ps : List (Int × κ)) (p : Int × κ) : numd (ps ++ [p]) = numd ps ++ [(p.1, (keysOn (keys ps) p).idxOf p.2)] := by
  unfold numd
  rw [List.map_append, keys_snoc]
  congr 1
  apply List.map_congr_left
  intro x hx
  rw [idx_keysOn p ((mem_keys ps x.2).2 ⟨x, hx, rfl⟩)]
theorem idx_new {κ : Type} [DecidableEq κ] {ks : List κ} {p : Int × κ} (h : p.2 ∉ ks) : (keysOn ks p).idxOf p.2 = ks.length := by
  unfold keysOn
  rw [if_neg h, List.idxOf_append, if_neg h]
  simp
theorem idx_met {κ : Type} [DecidableEq κ] {ks : List κ} {p : Int × κ} (h : p.2 ∈ ks) : (keysOn ks p).idxOf p.2 = ks.idxOf p.2 := idx_keysOn p h
theorem keysOn_length {κ : Type} [DecidableEq κ] (ks : List κ) (p : Int × κ) : (keysOn ks p).length = if p.2 ∈ ks then ks.length else ks.length + 1 := by
  unfold keysOn; split <;> simp
theorem keys_length_le {κ : Type} [DecidableEq κ] (ps : List (Int × κ)) : (keys ps).length ≤ ps.length := by
  induction ps using snoc_ind with
  | h0 => simp [keys]
  | h1 l x ih => rw [keys_snoc, keysOn_length, List.length_append]; split <;> simp <;> omega

/-- numbers as they are met: each is one that was, or the next one. -/
def Nm : Nat → List Nat → Nat → Prop
  | n, [], m => n = m
  | n, k :: l, m => k ≤ n ∧ Nm (if k = n then n + 1 else n) l m
theorem nm_snoc : ∀ {l : List Nat} {n m k : Nat}, Nm n l m → k ≤ m → Nm n (l ++ [k]) (if k = m then m + 1 else m)
  | [], n, m, k, h, hk => by
    have e : n = m := h
    subst e
    exact ⟨hk, rfl⟩
  | a :: l, n, m, k, h, hk => ⟨h.1, nm_snoc h.2 hk⟩
theorem numd_nm {κ : Type} [DecidableEq κ] (ps : List (Int × κ)) : Nm 0 ((numd ps).map Prod.snd) (keys ps).length := by
  induction ps using snoc_ind with
  | h0 => simp [numd, keys, Nm]
  | h1 l x ih =>
    rw [numd_snoc, List.map_append, keys_snoc, keysOn_length]
    by_cases hm : x.2 ∈ keys l
    · rw [idx_met hm, if_pos hm]
      have hlt := List.idxOf_lt_length_of_mem hm
      have := nm_snoc ih (Nat.le_of_lt hlt)
      rw [if_neg (by omega)] at this
      exact this
    · rw [idx_new hm, if_neg hm]
      have := nm_snoc ih (Nat.le_refl _)
      rw [if_pos rfl] at this
      exact this
/-- pieces with their classes named otherwise. -/
theorem wf_map {α β : Type} [Inhabited α] [Inhabited β] (f : α → β) : ∀ (l : List (Int × α)) (p : Int × α), (∀ x ∈ p :: l, ∀ y ∈ p :: l, f x.2 = f y.2 → x.2 = y.2) → Wf (p :: l) → Wf ((p :: l).map fun x => (x.1, f x.2)) ∧ ∀ c, p.1 ≤ c → cls ((p :: l).map fun x => (x.1, f x.2)) c = f (cls (p :: l) c)
  | [], p, _, h => ⟨h, fun c _ => rfl⟩
  | q :: l, p, hf, h => by
    obtain ⟨a1, a2⟩ := wf_map f l q (fun x hx y hy => hf x (List.mem_cons_of_mem _ hx) y (List.mem_cons_of_mem _ hy)) h.2.2
    refine ⟨⟨h.1, fun e => h.2.1 (hf p (by simp) q (by simp) e), a1⟩, fun c hc => ?_⟩
    rw [List.map_cons, List.map_cons, cls]
    simp only
    rw [cls]
    split
    · rfl
    · exact a2 c (by omega)
theorem idx_inj {κ : Type} [DecidableEq κ] {ks : List κ} {a b : κ} (ha : a ∈ ks) (hb : b ∈ ks) (e : ks.idxOf a = ks.idxOf b) : a = b := by
  have h1 := List.getElem_idxOf (List.idxOf_lt_length_of_mem ha)
  have h2 := List.getElem_idxOf (List.idxOf_lt_length_of_mem hb)
  simp only [e] at h1
  rw [← h1, h2]
theorem numd_wf {κ : Type} [DecidableEq κ] [Inhabited κ] (l : List (Int × κ)) (p : Int × κ) (h : Wf (p :: l)) : Wf (numd (p :: l)) ∧ ∀ c, p.1 ≤ c → cls (numd (p :: l)) c = (keys (p :: l)).idxOf (cls (p :: l) c) := by
  refine wf_map (β := Nat) (fun k => (keys (p :: l)).idxOf k) l p (fun x hx y hy e => ?_) h
  exact idx_inj ((mem_keys _ _).2 ⟨x, hx, rfl⟩) ((mem_keys _ _).2 ⟨y, hy, rfl⟩) e
/-- a key's place. -/
def ix {κ : Type} [DecidableEq κ] (ks : List κ) (k : κ) : Nat := ks.idxOf k
theorem ix_lt {κ : Type} [DecidableEq κ] {ks : List κ} {k : κ} (h : k ∈ ks) : ix ks k < ks.length := List.idxOf_lt_length_of_mem h
theorem ix_snoc_mem {κ : Type} [DecidableEq κ] {ks : List κ} {k x : κ} (h : k ∈ ks) : ix (ks ++ [x]) k = ix ks k := by unfold ix; rw [List.idxOf_append, if_pos h]
theorem ix_snoc_new {κ : Type} [DecidableEq κ] {ks : List κ} {k : κ} (h : k ∉ ks) : ix (ks ++ [k]) k = ks.length := by unfold ix; rw [List.idxOf_append, if_neg h]; simp
theorem ix_new {κ : Type} [DecidableEq κ] {ks : List κ} {p : Int × κ} (h : p.2 ∉ ks) : ix (keysOn ks p) p.2 = ks.length := idx_new h
theorem numd_snoc_ix {κ : Type} [DecidableEq κ] (ps : List (Int × κ)) (p : Int × κ) : numd (ps ++ [p]) = numd ps ++ [(p.1, ix (keysOn (keys ps) p) p.2)] := numd_snoc ps p
theorem cls_mem {α : Type} [Inhabited α] : ∀ (l : List (Int × α)) (p : Int × α) (c : Int), ∃ x ∈ p :: l, x.2 = cls (p :: l) c
  | [], p, _ => ⟨p, by simp, rfl⟩
  | q :: l, p, c => by
    rw [cls]
    split
    · exact ⟨p, by simp, rfl⟩
    · obtain ⟨x, hx, e⟩ := cls_mem l q c
      exact ⟨x, List.mem_cons_of_mem _ hx, e⟩
end Tnr
