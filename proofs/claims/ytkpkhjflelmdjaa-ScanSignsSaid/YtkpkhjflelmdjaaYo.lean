/- The walks of a scan's calls: of one that New or Copy answered; of none, and of one that nobody made. -/
import Derived.Test.YtkpkhjflelmdjaaYn
namespace Go.Proofs.Ytkpkhjflelmdjaa
open Go.RowKit Tnd

def TS : TypeId := 48

set_option maxHeartbeats 800000 in
theorem Next_scan (B b : Nat) (l : List Int) (k : Nat) (x : Int) (o : Bool) (k' : Nat) (w : World) (h : Sc w B b l k) (H : Calls Try.prog 43 #[.pointer (some ⟨b, 0, none⟩)] w (CP w B b 48 [.pointer (some ⟨b, 0, none⟩)] l (.tuple #[.int .i64 x, .bool o]) k')) :
    Calls Try.prog 22 #[.pointer (some ⟨b, 0, none⟩)] w (CP w B b 48 [.pointer (some ⟨b, 0, none⟩)] l (.tuple #[.int .i64 x, .bool o]) k') := by
  have HM := Lib.hid (made_yes B b l k w h)
  have HH := Lib.hid H
  clear H h
  go_enter Try.func22, Try.ntmps22
  go_wp2_with fail
  refine HM.out.mono ?_
  rintro e w1 ⟨rfl, rfl⟩
  go_wp2_with fail
  refine HH.out.mono ?_
  rintro e w2 ⟨rfl, hc, hg⟩
  go_wp2
  go_ret2
  exact ⟨rfl, hc, hg⟩
set_option maxHeartbeats 800000 in
theorem Next_off (v : Value) (w : World) (h : Calls Try.prog 29 #[v] w fun e w' => e = .returned (.bool false) ∧ w' = w) :
    Calls Try.prog 22 #[v] w fun e w' => e = .returned (.tuple #[.int .i64 0, .bool false]) ∧ w' = w := by
  have HM := Lib.hid h
  clear h
  go_enter Try.func22, Try.ntmps22
  go_wp2_with fail
  refine HM.out.mono ?_
  rintro e w1 ⟨rfl, rfl⟩
  go_wp2
  go_ret2
  exact ⟨rfl, rfl⟩

set_option maxHeartbeats 800000 in
theorem Peek_scan (B b : Nat) (l : List Int) (k : Nat) (x : Int) (o : Bool) (k' : Nat) (w : World) (h : Sc w B b l k) (H : Calls Try.prog 52 #[.pointer (some ⟨b, 0, none⟩)] w (CP w B b 48 [.pointer (some ⟨b, 0, none⟩)] l (.tuple #[.int .i64 x, .bool o]) k')) :
    Calls Try.prog 33 #[.pointer (some ⟨b, 0, none⟩)] w (CP w B b 48 [.pointer (some ⟨b, 0, none⟩)] l (.tuple #[.int .i64 x, .bool o]) k') := by
  have HM := Lib.hid (made_yes B b l k w h)
  have HH := Lib.hid H
  clear H h
  go_enter Try.func33, Try.ntmps33
  go_wp2_with fail
  refine HM.out.mono ?_
  rintro e w1 ⟨rfl, rfl⟩
  go_wp2_with fail
  refine HH.out.mono ?_
  rintro e w2 ⟨rfl, hc, hg⟩
  go_wp2
  go_ret2
  exact ⟨rfl, hc, hg⟩
set_option maxHeartbeats 800000 in
theorem Peek_off (v : Value) (w : World) (h : Calls Try.prog 29 #[v] w fun e w' => e = .returned (.bool false) ∧ w' = w) :
    Calls Try.prog 33 #[v] w fun e w' => e = .returned (.tuple #[.int .i64 0, .bool false]) ∧ w' = w := by
  have HM := Lib.hid h
  clear h
  go_enter Try.func33, Try.ntmps33
  go_wp2_with fail
  refine HM.out.mono ?_
  rintro e w1 ⟨rfl, rfl⟩
  go_wp2
  go_ret2
  exact ⟨rfl, rfl⟩

set_option maxHeartbeats 800000 in
theorem Escape_scan (B b : Nat) (l : List Int) (k : Nat) (x : Int) (o : Bool) (k' : Nat) (w : World) (h : Sc w B b l k) (H : Calls Try.prog 46 #[.pointer (some ⟨b, 0, none⟩)] w (CP w B b 48 [.pointer (some ⟨b, 0, none⟩)] l (.tuple #[.int .i64 x, .bool o]) k')) :
    Calls Try.prog 25 #[.pointer (some ⟨b, 0, none⟩)] w (CP w B b 48 [.pointer (some ⟨b, 0, none⟩)] l (.tuple #[.int .i64 x, .bool o]) k') := by
  have HM := Lib.hid (made_yes B b l k w h)
  have HH := Lib.hid H
  clear H h
  go_enter Try.func25, Try.ntmps25
  go_wp2_with fail
  refine HM.out.mono ?_
  rintro e w1 ⟨rfl, rfl⟩
  go_wp2_with fail
  refine HH.out.mono ?_
  rintro e w2 ⟨rfl, hc, hg⟩
  go_wp2
  go_ret2
  exact ⟨rfl, hc, hg⟩
set_option maxHeartbeats 800000 in
theorem Escape_off (v : Value) (w : World) (h : Calls Try.prog 29 #[v] w fun e w' => e = .returned (.bool false) ∧ w' = w) :
    Calls Try.prog 25 #[v] w fun e w' => e = .returned (.tuple #[.int .i64 0, .bool false]) ∧ w' = w := by
  have HM := Lib.hid h
  clear h
  go_enter Try.func25, Try.ntmps25
  go_wp2_with fail
  refine HM.out.mono ?_
  rintro e w1 ⟨rfl, rfl⟩
  go_wp2
  go_ret2
  exact ⟨rfl, rfl⟩

set_option maxHeartbeats 800000 in
theorem Decimal_scan (B b : Nat) (l : List Int) (k : Nat) (x y : Int) (k' : Nat) (w : World) (h : Sc w B b l k) (H : Calls Try.prog 47 #[.pointer (some ⟨b, 0, none⟩)] w (CP w B b 48 [.pointer (some ⟨b, 0, none⟩)] l (.tuple #[.int .i64 x, .int .i64 y]) k')) :
    Calls Try.prog 26 #[.pointer (some ⟨b, 0, none⟩)] w (CP w B b 48 [.pointer (some ⟨b, 0, none⟩)] l (.tuple #[.int .i64 x, .int .i64 y]) k') := by
  have HM := Lib.hid (made_yes B b l k w h)
  have HH := Lib.hid H
  clear H h
  go_enter Try.func26, Try.ntmps26
  go_wp2_with fail
  refine HM.out.mono ?_
  rintro e w1 ⟨rfl, rfl⟩
  go_wp2_with fail
  refine HH.out.mono ?_
  rintro e w2 ⟨rfl, hc, hg⟩
  go_wp2
  go_ret2
  exact ⟨rfl, hc, hg⟩
set_option maxHeartbeats 800000 in
theorem Decimal_off (v : Value) (w : World) (h : Calls Try.prog 29 #[v] w fun e w' => e = .returned (.bool false) ∧ w' = w) :
    Calls Try.prog 26 #[v] w fun e w' => e = .returned (.tuple #[.int .i64 0, .int .i64 0]) ∧ w' = w := by
  have HM := Lib.hid h
  clear h
  go_enter Try.func26, Try.ntmps26
  go_wp2_with fail
  refine HM.out.mono ?_
  rintro e w1 ⟨rfl, rfl⟩
  go_wp2
  go_ret2
  exact ⟨rfl, rfl⟩

set_option maxHeartbeats 800000 in
theorem Name_scan (B b : Nat) (l : List Int) (k : Nat) (x : ByteArray) (o : Bool) (k' : Nat) (w : World) (h : Sc w B b l k) (H : Calls Try.prog 51 #[.pointer (some ⟨b, 0, none⟩)] w (CP w B b 48 [.pointer (some ⟨b, 0, none⟩)] l (.tuple #[.string x, .bool o]) k')) :
    Calls Try.prog 32 #[.pointer (some ⟨b, 0, none⟩)] w (CP w B b 48 [.pointer (some ⟨b, 0, none⟩)] l (.tuple #[.string x, .bool o]) k') := by
  have HM := Lib.hid (made_yes B b l k w h)
  have HH := Lib.hid H
  clear H h
  go_enter Try.func32, Try.ntmps32
  go_wp2_with fail
  refine HM.out.mono ?_
  rintro e w1 ⟨rfl, rfl⟩
  go_wp2_with fail
  refine HH.out.mono ?_
  rintro e w2 ⟨rfl, hc, hg⟩
  go_wp2
  go_ret2
  exact ⟨rfl, hc, hg⟩
set_option maxHeartbeats 800000 in
theorem Name_off (v : Value) (w : World) (h : Calls Try.prog 29 #[v] w fun e w' => e = .returned (.bool false) ∧ w' = w) :
    Calls Try.prog 32 #[v] w fun e w' => e = .returned (.tuple #[.string ⟨#[]⟩, .bool false]) ∧ w' = w := by
  have HM := Lib.hid h
  clear h
  go_enter Try.func32, Try.ntmps32
  go_wp2_with fail
  refine HM.out.mono ?_
  rintro e w1 ⟨rfl, rfl⟩
  go_wp2
  go_ret2
  exact ⟨rfl, rfl⟩

set_option maxHeartbeats 800000 in
theorem Any_scan (B b : Nat) (l : List Int) (k : Nat) (s : ByteArray) (x : Int) (o : Bool) (k' : Nat) (w : World) (h : Sc w B b l k) (H : Calls Try.prog 50 #[.pointer (some ⟨b, 0, none⟩), .string s] w (CP w B b 48 [.pointer (some ⟨b, 0, none⟩)] l (.tuple #[.int .i64 x, .bool o]) k')) :
    Calls Try.prog 31 #[.pointer (some ⟨b, 0, none⟩), .string s] w (CP w B b 48 [.pointer (some ⟨b, 0, none⟩)] l (.tuple #[.int .i64 x, .bool o]) k') := by
  have HM := Lib.hid (made_yes B b l k w h)
  have HH := Lib.hid H
  clear H h
  go_enter Try.func31, Try.ntmps31
  go_wp2_with fail
  refine HM.out.mono ?_
  rintro e w1 ⟨rfl, rfl⟩
  go_wp2_with fail
  refine HH.out.mono ?_
  rintro e w2 ⟨rfl, hc, hg⟩
  go_wp2
  go_ret2
  exact ⟨rfl, hc, hg⟩
set_option maxHeartbeats 800000 in
theorem Any_off (v : Value) (s : ByteArray) (w : World) (h : Calls Try.prog 29 #[v] w fun e w' => e = .returned (.bool false) ∧ w' = w) :
    Calls Try.prog 31 #[v, .string s] w fun e w' => e = .returned (.tuple #[.int .i64 0, .bool false]) ∧ w' = w := by
  have HM := Lib.hid h
  clear h
  go_enter Try.func31, Try.ntmps31
  go_wp2_with fail
  refine HM.out.mono ?_
  rintro e w1 ⟨rfl, rfl⟩
  go_wp2
  go_ret2
  exact ⟨rfl, rfl⟩

set_option maxHeartbeats 800000 in
theorem Done_scan (B b : Nat) (l : List Int) (k : Nat) (o : Bool) (k' : Nat) (w : World) (h : Sc w B b l k) (H : Calls Try.prog 42 #[.pointer (some ⟨b, 0, none⟩)] w (CP w B b 48 [.pointer (some ⟨b, 0, none⟩)] l (.bool o) k')) :
    Calls Try.prog 21 #[.pointer (some ⟨b, 0, none⟩)] w (CP w B b 48 [.pointer (some ⟨b, 0, none⟩)] l (.bool o) k') := by
  have HM := Lib.hid (made_yes B b l k w h)
  have HH := Lib.hid H
  clear H h
  go_enter Try.func21, Try.ntmps21
  go_wp2_with (first
    | (go_at_call 29; refine HM.out.mono ?_; rintro e w1 ⟨rfl, rfl⟩)
    | (go_at_call 42; refine HH.out.mono ?_; rintro e w2 ⟨rfl, hc, hg⟩; have HC := Lib.hid hc; have HG := Lib.hid hg; clear hc hg))
  go_ret
  exact ⟨rfl, HC.out, HG.out⟩
set_option maxHeartbeats 800000 in
theorem Done_off (v : Value) (w : World) (h : Calls Try.prog 29 #[v] w fun e w' => e = .returned (.bool false) ∧ w' = w) :
    Calls Try.prog 21 #[v] w fun e w' => e = .returned (.bool false) ∧ w' = w := by
  have HM := Lib.hid h
  clear h
  go_enter Try.func21, Try.ntmps21
  go_wp2_with (go_at_call 29; refine HM.out.mono ?_; rintro e w1 ⟨rfl, rfl⟩)
  go_ret
  exact ⟨rfl, rfl⟩

set_option maxHeartbeats 800000 in
theorem Take_scan (B b : Nat) (l : List Int) (k : Nat) (s : ByteArray) (o : Bool) (k' : Nat) (w : World) (h : Sc w B b l k) (H : Calls Try.prog 49 #[.pointer (some ⟨b, 0, none⟩), .string s] w (CP w B b 48 [.pointer (some ⟨b, 0, none⟩)] l (.bool o) k')) :
    Calls Try.prog 30 #[.pointer (some ⟨b, 0, none⟩), .string s] w (CP w B b 48 [.pointer (some ⟨b, 0, none⟩)] l (.bool o) k') := by
  have HM := Lib.hid (made_yes B b l k w h)
  have HH := Lib.hid H
  clear H h
  go_enter Try.func30, Try.ntmps30
  go_wp2_with (first
    | (go_at_call 29; refine HM.out.mono ?_; rintro e w1 ⟨rfl, rfl⟩)
    | (go_at_call 49; refine HH.out.mono ?_; rintro e w2 ⟨rfl, hc, hg⟩; have HC := Lib.hid hc; have HG := Lib.hid hg; clear hc hg))
  go_ret
  exact ⟨rfl, HC.out, HG.out⟩
set_option maxHeartbeats 800000 in
theorem Take_off (v : Value) (s : ByteArray) (w : World) (h : Calls Try.prog 29 #[v] w fun e w' => e = .returned (.bool false) ∧ w' = w) :
    Calls Try.prog 30 #[v, .string s] w fun e w' => e = .returned (.bool false) ∧ w' = w := by
  have HM := Lib.hid h
  clear h
  go_enter Try.func30, Try.ntmps30
  go_wp2_with (go_at_call 29; refine HM.out.mono ?_; rintro e w1 ⟨rfl, rfl⟩)
  go_ret
  exact ⟨rfl, rfl⟩

set_option maxHeartbeats 800000 in
theorem At_scan (B b : Nat) (l : List Int) (k : Nat) (w : World) (h : Sc w B b l k) :
    Calls Try.prog 19 #[.pointer (some ⟨b, 0, none⟩)] w fun e w' => e = .returned (.int .i64 (k : Nat)) ∧ w' = w := by
  have HM := Lib.hid (made_yes B b l k w h)
  have hc := h.cell1
  clear h
  go_enter Try.func19, Try.ntmps19
  go_wp2_with fail
  refine HM.out.mono ?_
  rintro e w1 ⟨rfl, rfl⟩
  go_wp2
  go_ret
  exact ⟨rfl, rfl⟩
set_option maxHeartbeats 800000 in
theorem At_off (v : Value) (w : World) (h : Calls Try.prog 29 #[v] w fun e w' => e = .returned (.bool false) ∧ w' = w) :
    Calls Try.prog 19 #[v] w fun e w' => e = .returned (.int .i64 0) ∧ w' = w := by
  have HM := Lib.hid h
  clear h
  go_enter Try.func19, Try.ntmps19
  go_wp2_with fail
  refine HM.out.mono ?_
  rintro e w1 ⟨rfl, rfl⟩
  go_wp2
  go_ret
  exact ⟨rfl, rfl⟩
set_option maxHeartbeats 800000 in
theorem Copy_scan (B b : Nat) (l : List Int) (k : Nat) (w : World) (h : Sc w B b l k) :
    Calls Try.prog 15 #[.pointer (some ⟨b, 0, none⟩)] w (ObjPost l k w) := by
  have HM := Lib.hid (made_yes B b l k w h)
  have hc1 := h.cell1
  obtain ⟨p, c, hc0, ⟨hlc, hcm⟩, ho, hrow⟩ := h.row
  have hsl : SlI w p l := by
    by_cases e : l = []
    · exact .inl e
    · obtain ⟨g, hg, hcell⟩ := hrow e
      exact .inr ⟨g, 0, hg, fun i hi => by rw [Nat.zero_add]; exact hcell i hi⟩
  have hpn : p = none → c = 0 := fun e => by
    obtain ⟨p', c', e2, -, -, hn2⟩ := ownI_form ho
    rcases ho.2 with ⟨e3, _⟩ | ⟨g, cap, cur, e3, _⟩
    · simp only [Value.slice.injEq] at e3; exact e3.2.2
    · simp only [Value.slice.injEq] at e3; rw [e] at e3; cases e3.1
  have HO := Lib.hid (object_any p l c k w hsl hpn h.le.2.2 h.le.2.1)
  obtain ⟨n, hn⟩ : ∃ n, n = l.length := ⟨_, rfl⟩
  rw [← hn] at HO hc0
  clear h hlc hcm ho hrow hsl hpn hn
  go_enter Try.func15, Try.ntmps15
  go_wp2_with fail
  refine HM.out.mono ?_
  rintro e w1 ⟨rfl, rfl⟩
  go_wp2_with fail
  refine HO.out.mono ?_
  rintro e w2 ⟨b2, rfl, h1, h2⟩
  go_wp2
  go_ret
  exact ⟨b2, rfl, h1, h2⟩
set_option maxHeartbeats 800000 in
theorem Copy_off (v : Value) (w : World) (h : Calls Try.prog 29 #[v] w fun e w' => e = .returned (.bool false) ∧ w' = w) :
    Calls Try.prog 15 #[v] w fun e w' => e = .returned (.pointer none) ∧ w' = w := by
  have HM := Lib.hid h
  clear h
  go_enter Try.func15, Try.ntmps15
  go_wp2_with fail
  refine HM.out.mono ?_
  rintro e w1 ⟨rfl, rfl⟩
  go_wp2
  go_ret
  exact ⟨rfl, rfl⟩
end Go.Proofs.Ytkpkhjflelmdjaa
