/- The walks of a scan's calls: of one that New or Copy answered; of none, and of one that nobody made. -/
import Derived.Test.YtnedbeomflllcaaYn
namespace Go.Proofs.Ytnedbeomflllcaa
open Go.RowKit Tnd

def TS : TypeId := 43

set_option maxHeartbeats 800000 in
theorem Next_scan (B b : Nat) (l : List Int) (k : Nat) (x : Int) (o : Bool) (k' : Nat) (w : World) (h : Sc w B b l k) (H : Calls Try.prog 20 #[.pointer (some ⟨b, 0, none⟩)] w (CP w B b 43 [.pointer (some ⟨b, 0, none⟩)] l (.tuple #[.int .i64 x, .bool o]) k')) :
    Calls Try.prog 12 #[.pointer (some ⟨b, 0, none⟩)] w (CP w B b 43 [.pointer (some ⟨b, 0, none⟩)] l (.tuple #[.int .i64 x, .bool o]) k') := by
  have HM := Lib.hid (made_yes B b l k w h)
  have HH := Lib.hid H
  clear H h
  go_enter Try.func12, Try.ntmps12
  go_wp2_with fail
  refine HM.out.mono ?_
  rintro e w1 ⟨rfl, rfl⟩
  go_wp2_with fail
  refine HH.out.mono ?_
  rintro e w2 ⟨rfl, hc, hg⟩
  go_wp2
  go_ret2
  exact ⟨rfl, hc, hg⟩
set_option maxHeartbeats 800000 in
theorem Next_off (v : Value) (w : World) (h : Calls Try.prog 18 #[v] w fun e w' => e = .returned (.bool false) ∧ w' = w) :
    Calls Try.prog 12 #[v] w fun e w' => e = .returned (.tuple #[.int .i64 0, .bool false]) ∧ w' = w := by
  have HM := Lib.hid h
  clear h
  go_enter Try.func12, Try.ntmps12
  go_wp2_with fail
  refine HM.out.mono ?_
  rintro e w1 ⟨rfl, rfl⟩
  go_wp2
  go_ret2
  exact ⟨rfl, rfl⟩

set_option maxHeartbeats 800000 in
theorem Escape_scan (B b : Nat) (l : List Int) (k : Nat) (x : Int) (o : Bool) (k' : Nat) (w : World) (h : Sc w B b l k) (H : Calls Try.prog 19 #[.pointer (some ⟨b, 0, none⟩)] w (CP w B b 43 [.pointer (some ⟨b, 0, none⟩)] l (.tuple #[.int .i64 x, .bool o]) k')) :
    Calls Try.prog 10 #[.pointer (some ⟨b, 0, none⟩)] w (CP w B b 43 [.pointer (some ⟨b, 0, none⟩)] l (.tuple #[.int .i64 x, .bool o]) k') := by
  have HM := Lib.hid (made_yes B b l k w h)
  have HH := Lib.hid H
  clear H h
  go_enter Try.func10, Try.ntmps10
  go_wp2_with fail
  refine HM.out.mono ?_
  rintro e w1 ⟨rfl, rfl⟩
  go_wp2_with fail
  refine HH.out.mono ?_
  rintro e w2 ⟨rfl, hc, hg⟩
  go_wp2
  go_ret2
  exact ⟨rfl, hc, hg⟩
set_option maxHeartbeats 800000 in
theorem Escape_off (v : Value) (w : World) (h : Calls Try.prog 18 #[v] w fun e w' => e = .returned (.bool false) ∧ w' = w) :
    Calls Try.prog 10 #[v] w fun e w' => e = .returned (.tuple #[.int .i64 0, .bool false]) ∧ w' = w := by
  have HM := Lib.hid h
  clear h
  go_enter Try.func10, Try.ntmps10
  go_wp2_with fail
  refine HM.out.mono ?_
  rintro e w1 ⟨rfl, rfl⟩
  go_wp2
  go_ret2
  exact ⟨rfl, rfl⟩

set_option maxHeartbeats 800000 in
theorem Decimal_scan (B b : Nat) (l : List Int) (k : Nat) (x y : Int) (k' : Nat) (w : World) (h : Sc w B b l k) (H : Calls Try.prog 21 #[.pointer (some ⟨b, 0, none⟩)] w (CP w B b 43 [.pointer (some ⟨b, 0, none⟩)] l (.tuple #[.int .i64 x, .int .i64 y]) k')) :
    Calls Try.prog 13 #[.pointer (some ⟨b, 0, none⟩)] w (CP w B b 43 [.pointer (some ⟨b, 0, none⟩)] l (.tuple #[.int .i64 x, .int .i64 y]) k') := by
  have HM := Lib.hid (made_yes B b l k w h)
  have HH := Lib.hid H
  clear H h
  go_enter Try.func13, Try.ntmps13
  go_wp2_with fail
  refine HM.out.mono ?_
  rintro e w1 ⟨rfl, rfl⟩
  go_wp2_with fail
  refine HH.out.mono ?_
  rintro e w2 ⟨rfl, hc, hg⟩
  go_wp2
  go_ret2
  exact ⟨rfl, hc, hg⟩
set_option maxHeartbeats 800000 in
theorem Decimal_off (v : Value) (w : World) (h : Calls Try.prog 18 #[v] w fun e w' => e = .returned (.bool false) ∧ w' = w) :
    Calls Try.prog 13 #[v] w fun e w' => e = .returned (.tuple #[.int .i64 0, .int .i64 0]) ∧ w' = w := by
  have HM := Lib.hid h
  clear h
  go_enter Try.func13, Try.ntmps13
  go_wp2_with fail
  refine HM.out.mono ?_
  rintro e w1 ⟨rfl, rfl⟩
  go_wp2
  go_ret2
  exact ⟨rfl, rfl⟩

set_option maxHeartbeats 800000 in
theorem Done_scan (B b : Nat) (l : List Int) (k : Nat) (o : Bool) (k' : Nat) (w : World) (h : Sc w B b l k) (H : Calls Try.prog 22 #[.pointer (some ⟨b, 0, none⟩)] w (CP w B b 43 [.pointer (some ⟨b, 0, none⟩)] l (.bool o) k')) :
    Calls Try.prog 14 #[.pointer (some ⟨b, 0, none⟩)] w (CP w B b 43 [.pointer (some ⟨b, 0, none⟩)] l (.bool o) k') := by
  have HM := Lib.hid (made_yes B b l k w h)
  have HH := Lib.hid H
  clear H h
  go_enter Try.func14, Try.ntmps14
  go_wp2_with (first
    | (go_at_call 18; refine HM.out.mono ?_; rintro e w1 ⟨rfl, rfl⟩)
    | (go_at_call 22; refine HH.out.mono ?_; rintro e w2 ⟨rfl, hc, hg⟩; have HC := Lib.hid hc; have HG := Lib.hid hg; clear hc hg))
  go_ret
  exact ⟨rfl, HC.out, HG.out⟩
set_option maxHeartbeats 800000 in
theorem Done_off (v : Value) (w : World) (h : Calls Try.prog 18 #[v] w fun e w' => e = .returned (.bool false) ∧ w' = w) :
    Calls Try.prog 14 #[v] w fun e w' => e = .returned (.bool false) ∧ w' = w := by
  have HM := Lib.hid h
  clear h
  go_enter Try.func14, Try.ntmps14
  go_wp2_with (go_at_call 18; refine HM.out.mono ?_; rintro e w1 ⟨rfl, rfl⟩)
  go_ret
  exact ⟨rfl, rfl⟩

set_option maxHeartbeats 800000 in
theorem At_scan (B b : Nat) (l : List Int) (k : Nat) (w : World) (h : Sc w B b l k) :
    Calls Try.prog 11 #[.pointer (some ⟨b, 0, none⟩)] w fun e w' => e = .returned (.int .i64 (k : Nat)) ∧ w' = w := by
  have HM := Lib.hid (made_yes B b l k w h)
  have hc := h.cell1
  clear h
  go_enter Try.func11, Try.ntmps11
  go_wp2_with fail
  refine HM.out.mono ?_
  rintro e w1 ⟨rfl, rfl⟩
  go_wp2
  go_ret
  exact ⟨rfl, rfl⟩
set_option maxHeartbeats 800000 in
theorem At_off (v : Value) (w : World) (h : Calls Try.prog 18 #[v] w fun e w' => e = .returned (.bool false) ∧ w' = w) :
    Calls Try.prog 11 #[v] w fun e w' => e = .returned (.int .i64 0) ∧ w' = w := by
  have HM := Lib.hid h
  clear h
  go_enter Try.func11, Try.ntmps11
  go_wp2_with fail
  refine HM.out.mono ?_
  rintro e w1 ⟨rfl, rfl⟩
  go_wp2
  go_ret
  exact ⟨rfl, rfl⟩
end Go.Proofs.Ytnedbeomflllcaa
