/- The walks of a scan's decimal and name; Clone; a scan in memory of its own. -/
import Derived.Test.YtkpkhjflelmdjaaYl
namespace Go.Proofs.Ytkpkhjflelmdjaa
open Go.RowKit Tnd

set_option maxHeartbeats 1600000 in
theorem decimal_any (B b : Nat) (T : TypeId) (R : List Value) (l : List Int) (k : Nat) (w : World) (h : Cu w B b T R l k) :
    Calls Try.prog 47 #[.pointer (some ⟨b, 0, none⟩)] w (CP w B b T R l (.tuple #[.int .i64 (numR 10 1073741824 (l.drop k).length 0 (l.drop k)).1, .int .i64 ((numR 10 1073741824 (l.drop k).length 0 (l.drop k)).2 : Nat)]) (k + (numR 10 1073741824 (l.drop k).length 0 (l.drop k)).2)) := by
  have hn := number10_any B b T R l k l.length w h (by have := h.le; omega)
  rw [numR_more 10 1073741824 l.length (l.drop k).length 0 (l.drop k) (by rw [List.length_drop]; omega) (Nat.le_refl _)] at hn
  obtain ⟨p, c, hc0, hc1, -, -⟩ := h.copy
  obtain ⟨_, hkl, hlm⟩ := h.le
  generalize numR 10 1073741824 (l.drop k).length 0 (l.drop k) = X at *
  obtain ⟨a, d⟩ := X
  simp only at hn ⊢
  obtain ⟨n, hnl⟩ : ∃ n, n = l.length := ⟨_, rfl⟩
  rw [← hnl] at hn hc0 hlm
  have hnI : (n : Int) ≤ 1000000 := by omega
  have HN := Lib.hid hn
  clear hn hnl h hkl
  go_enter Try.func47, Try.ntmps47
  go_wp2_with fail
  refine HN.out.mono ?_
  rintro e w1 ⟨rfl, hc, hg⟩
  go_wp2
  go_ret2
  exact ⟨rfl, hc, hg⟩

/-- what a name's call leaves. -/
def NP (w : World) (B b : Nat) (T : TypeId) (R : List Value) (l : List Int) (o : Option (List UInt8)) (k : Nat) (e : Ending) (w' : World) : Prop :=
  match o with
  | some s => CP w B b T R l (.tuple #[.string ⟨s.toArray⟩, .bool true]) (k + s.length + 1) e w'
  | none => CP w B b T R l (.tuple #[.string ⟨#[]⟩, .bool false]) k e w'

def nameHead : String := ""
set_option maxHeartbeats 1600000 in
theorem name_any (B b : Nat) (T : TypeId) (R : List Value) (l : List Int) (k : Nat) (w : World) (h : Cu w B b T R l k) :
    Calls Try.prog 51 #[.pointer (some ⟨b, 0, none⟩)] w (NP w B b T R l (namR (l.drop k)) k) := by
  obtain ⟨p, c, hc0, hc1, hcopy, -⟩ := h.copy
  have HC := Lib.hid h
  have HCP := Lib.hid (hcopy _ rfl)
  have HSG : Hid (∀ (nb : Nat) (w1 : World), Cu w1 B nb 46 [] l k → Calls Try.prog 58 #[.pointer (some ⟨nb, 0, none⟩)] w1 (CP w1 B nb 46 [] l (.string ⟨(sgnR 40 (l.drop k)).toArray⟩) (k + (sgnR 40 (l.drop k)).length))) := fun nb w1 h1 => signs_any B nb 46 [] l k w1 h1
  have hle := sgnR_le 40 (l.drop k)
  have HTK : Hid (∀ (nb j : Nat) (w1 : World), Cu w1 B nb 46 [] l (k + j) → Calls Try.prog 49 #[.pointer (some ⟨nb, 0, none⟩), .string ⟨#[62]⟩] w1 (CP w1 B nb 46 [] l (.bool (pre [62] ((l.drop k).drop j))) (if pre [62] ((l.drop k).drop j) = true then k + j + 1 else k + j))) := fun nb j w1 h1 => by
    have := take_any B nb 46 [] l (k + j) ⟨#[62]⟩ w1 h1 (by decide)
    rw [← List.drop_drop] at this
    exact this
  have HS : Hid (b < w.heap.size) := h.lt
  unfold namR
  generalize hS : sgnR 40 (l.drop k) = S at *
  clear hS hcopy h
  cases S with
  | nil =>
    simp only [List.length_nil, Nat.add_zero] at HSG
    clear hle HTK
    go_enter Try.func51, Try.ntmps51
    go_wp2_with fail
    refine (HSG.out _ _ HCP.out).mono ?_
    rintro e w1 ⟨rfl, hc, hg⟩
    have HC1 := Lib.hid hc
    have HG1 := Lib.hid hg
    have HCb := Lib.hid ((HC.out.below (bl_alloc w _)).beside HCP.out (by have := HS.out; omega) HG1.out)
    have HGb := Lib.hid (grown_new (below_grown (bl_alloc w _) (some b)) HG1.out (Nat.le_refl _))
    clear hc hg
    go_wp2
    go_ret2
    exact ⟨rfl, HCb.out, HGb.out⟩
  | cons x s =>
    simp only
    obtain ⟨N, hN⟩ : ∃ N : ByteArray, N = ⟨(x :: s).toArray⟩ := ⟨_, rfl⟩
    have hNs : N.size = s.length + 1 := by rw [hN]; simp [ByteArray.size]
    have hne : ¬ N.toList = [] := by
      intro e
      rw [ByteArray.toList_eq] at e
      have h2 : N.size = 0 := by show N.data.size = 0; rw [← Array.length_toList, e]; rfl
      omega
    have hemp : N.toList.isEmpty = false := by simpa using hne
    have hNp : 0 < N.size := by omega
    have hNI : (0 : Int) < N.size := by omega
    have hx8 : x.toNat < 256 := x.toNat_lt
    have HA : Hid (∀ W, Calls Try.prog 57 #[.int .i64 (x.toNat : Nat), .string ⟨digS.toArray⟩] W fun e w' => e = .returned (.bool (amg (x.toNat : Int) digS)) ∧ w' = W) := fun W => among_any (x.toNat : Int) ⟨digS.toArray⟩ W (by decide)
    unfold digS at HA
    rw [← hN] at HSG
    have HNN := Lib.hid hN
    have hx0 : ((N[0].toNat : Nat) : Int) = (x.toNat : Int) := by subst hN; rfl
    have HSL : Hid ((x :: s).length = s.length + 1) := rfl
    generalize hX : x.toNat = X at *
    generalize (x :: s).length = L at *
    clear hle hN hNs hX
    by_cases ha : amg (X : Int) digS = true
    · rw [if_pos ha]
      unfold digS at ha
      rw [ha] at HA
      clear HTK ha
      go_enter Try.func51, Try.ntmps51
      go_wp2_with fail
      refine (HSG.out _ _ HCP.out).mono ?_
      rintro e w1 ⟨rfl, hc, hg⟩
      have HC1 := Lib.hid hc
      have HG1 := Lib.hid hg
      have HCb := Lib.hid ((HC.out.below (bl_alloc w _)).beside HCP.out (by have := HS.out; omega) HG1.out)
      have HGb := Lib.hid (grown_new (below_grown (bl_alloc w _) (some b)) HG1.out (Nat.le_refl _))
      clear hc hg
      go_wp2_with fail
      refine (HA.out _).mono ?_
      rintro e w2 ⟨rfl, rfl⟩
      go_wp2
      go_ret2
      exact ⟨rfl, HCb.out, HGb.out⟩
    · have ha2 : amg (X : Int) digS = false := by simpa using ha
      rw [if_neg ha]
      unfold digS at ha2
      rw [ha2] at HA
      clear ha ha2
      obtain ⟨P, hP⟩ : ∃ P, P = pre [62] ((l.drop k).drop (s.length + 1)) := ⟨_, rfl⟩
      have HTK2 : Hid (∀ (nb : Nat) (w1 : World), Cu w1 B nb 46 [] l (k + L) → Calls Try.prog 49 #[.pointer (some ⟨nb, 0, none⟩), .string ⟨#[62]⟩] w1 (CP w1 B nb 46 [] l (.bool P) (if P = true then k + L + 1 else k + L))) := fun nb w1 h1 => by
        rw [hP, ← HSL.out]; exact HTK.out nb L w1 h1
      rw [← hP]
      clear hP HTK
      cases P with
      | true =>
        simp only [if_true] at HTK2 ⊢
        go_enter Try.func51, Try.ntmps51
        go_wp2_with fail
        refine (HSG.out _ _ HCP.out).mono ?_
        rintro e w1 ⟨rfl, hc, hg⟩
        have HC1 := Lib.hid hc
        have HG1 := Lib.hid hg
        have HCb := Lib.hid ((HC.out.below (bl_alloc w _)).beside HCP.out (by have := HS.out; omega) HG1.out)
        have HGb := Lib.hid (grown_new (below_grown (bl_alloc w _) (some b)) HG1.out (Nat.le_refl _))
        clear hc hg
        go_wp2_with fail
        refine (HA.out _).mono ?_
        rintro e w2 ⟨rfl, rfl⟩
        go_wp2_with fail
        refine (HTK2.out _ _ HC1.out).mono ?_
        rintro e w3 ⟨rfl, hc, hg⟩
        obtain ⟨p3, c3, hd0, hd1, -, hback⟩ := hc.copy
        have HB := Lib.hid hback
        have HC3 := Lib.hid (HCb.out.beside HC1.out (by have := HS.out; omega) hg)
        have HG3 := Lib.hid (grown_new HGb.out hg (Nat.le_refl _))
        have hf0 := HC3.out.frz 0
        have hf1 := HC3.out.frz 1
        obtain ⟨q, d, hb0, hb1, -, -⟩ := HC3.out.copy
        clear hc hg hback
        go_wp2
        go_ret2
        refine ⟨by rw [← HNN.out]; rfl, ?_, ?_⟩
        · exact (HB.out b T R k HC3.out _ (by omega)).at (by have := HSL.out; simp only [List.length_cons]; omega)
        · exact (HG3.out.trans (grown_set w3 ⟨b, 0, none⟩ _)).trans (grown_set _ ⟨b, 1, none⟩ _)
      | false =>
        simp only [Bool.false_eq_true, if_false] at HTK2 ⊢
        go_enter Try.func51, Try.ntmps51
        go_wp2_with fail
        refine (HSG.out _ _ HCP.out).mono ?_
        rintro e w1 ⟨rfl, hc, hg⟩
        have HC1 := Lib.hid hc
        have HG1 := Lib.hid hg
        have HCb := Lib.hid ((HC.out.below (bl_alloc w _)).beside HCP.out (by have := HS.out; omega) HG1.out)
        have HGb := Lib.hid (grown_new (below_grown (bl_alloc w _) (some b)) HG1.out (Nat.le_refl _))
        clear hc hg
        go_wp2_with fail
        refine (HA.out _).mono ?_
        rintro e w2 ⟨rfl, rfl⟩
        go_wp2_with fail
        refine (HTK2.out _ _ HC1.out).mono ?_
        rintro e w3 ⟨rfl, hc, hg⟩
        have HC3 := Lib.hid (HCb.out.beside HC1.out (by have := HS.out; omega) hg)
        have HG3 := Lib.hid (grown_new HGb.out hg (Nat.le_refl _))
        clear hc hg
        go_wp2
        go_ret2
        exact ⟨rfl, HC3.out, HG3.out⟩
end Go.Proofs.Ytkpkhjflelmdjaa
