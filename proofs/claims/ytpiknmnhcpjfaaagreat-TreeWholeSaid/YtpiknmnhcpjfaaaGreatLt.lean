/- The walk of the table of the kinds. -/
import Derived.Test.YtpiknmnhcpjfaaaGreatLs
namespace Go.Proofs.YtpiknmnhcpjfaaaGreat
open Go.RowKit Tnr Tnt

def kRow (lo hi : Int) (f : FuncId) : List Value := [.int .i64 lo, .int .i64 hi, .func (.func f) #[] #[]]
def kTab : List Value := [.int .i64 0, .int .i64 0, Value.nilFunc] ++ kRow 0 0 63 ++ kRow 0 0 64 ++ kRow 2 4000 63 ++ kRow 2 4000 63 ++ kRow 1 1 65 ++ kRow 1 1 63 ++ kRow 1 1 66 ++ kRow 0 0 65 ++ kRow 0 0 67 ++ kRow 1 1 68 ++ kRow 1 1 68 ++ kRow 1 2 69 ++ kRow 1 1 63
set_option maxHeartbeats 1600000 in
set_option maxRecDepth 100000 in
theorem kinds_any (w : World) : Calls Tryz.prog 54 #[] w fun e w' => e = .returned (.slice (some ⟨w.heap.size, 0, none⟩) 14 14) ∧ w' = w.alloc (.cells kTab.toArray 93) := by
  go_enter Tryz.func54, Tryz.ntmps54
  go_wp2
  go_ret
  exact ⟨rfl, rfl⟩

/-- is a node of its kind? -/
def kindB (x : NV) : Bool :=
  if x.nd.kind = 1 then fitsB 0 0 bareB id x else if x.nd.kind = 2 then fitsB 0 0 setB noSet x
  else if x.nd.kind = 3 then fitsB 2 4000 bareB id x else if x.nd.kind = 4 then fitsB 2 4000 bareB id x
  else if x.nd.kind = 5 then fitsB 1 1 (fun _ => true) noGroup x else if x.nd.kind = 6 then fitsB 1 1 bareB id x
  else if x.nd.kind = 7 then fitsB 1 1 repeatB noTimes x else if x.nd.kind = 8 then fitsB 0 0 (fun _ => true) noGroup x
  else if x.nd.kind = 9 then fitsB 0 0 spotB noSpot x else if x.nd.kind = 10 then fitsB 1 1 (fun _ => true) noNot x
  else if x.nd.kind = 11 then fitsB 1 1 (fun _ => true) noNot x else if x.nd.kind = 12 then fitsB 1 2 tryB noMode x
  else if x.nd.kind = 13 then fitsB 1 1 bareB id x else false
theorem kind_row (k : Nat) (hk : k < 14) : ∃ (lo hi : Int) (fv : Value), kTab[k * 3]? = some (.int .i64 lo) ∧ kTab[k * 3 + 1]? = some (.int .i64 hi) ∧ kTab[k * 3 + 2]? = some fv ∧
    ∀ (x : NV) (w : World), NodeIn w x → x.nd.kind = (k : Int) → Calls Tryz.prog 57 #[.agg #[.int .i64 lo, .int .i64 hi, fv], .agg (encN x).toArray] w fun e w' => e = .returned (.bool (kindB x)) ∧ Below w.heap.size w w' := by
  match k, hk with
  | 0, _ => exact ⟨_, _, _, rfl, rfl, rfl, fun x w hI h => by unfold kindB; rw [h]; exact fits_nil 0 0 x w⟩
  | 1, _ => exact ⟨_, _, _, rfl, rfl, rfl, fun x w hI h => by unfold kindB; rw [h]; exact fits_bare 0 0 x w hI⟩
  | 2, _ => exact ⟨_, _, _, rfl, rfl, rfl, fun x w hI h => by unfold kindB; rw [h]; exact fits_set 0 0 x w hI⟩
  | 3, _ => exact ⟨_, _, _, rfl, rfl, rfl, fun x w hI h => by unfold kindB; rw [h]; exact fits_bare 2 4000 x w hI⟩
  | 4, _ => exact ⟨_, _, _, rfl, rfl, rfl, fun x w hI h => by unfold kindB; rw [h]; exact fits_bare 2 4000 x w hI⟩
  | 5, _ => exact ⟨_, _, _, rfl, rfl, rfl, fun x w hI h => by unfold kindB; rw [h]; exact fits_group 1 1 x w hI⟩
  | 6, _ => exact ⟨_, _, _, rfl, rfl, rfl, fun x w hI h => by unfold kindB; rw [h]; exact fits_bare 1 1 x w hI⟩
  | 7, _ => exact ⟨_, _, _, rfl, rfl, rfl, fun x w hI h => by unfold kindB; rw [h]; exact fits_repeat 1 1 x w hI⟩
  | 8, _ => exact ⟨_, _, _, rfl, rfl, rfl, fun x w hI h => by unfold kindB; rw [h]; exact fits_group 0 0 x w hI⟩
  | 9, _ => exact ⟨_, _, _, rfl, rfl, rfl, fun x w hI h => by unfold kindB; rw [h]; exact fits_spot 0 0 x w hI⟩
  | 10, _ => exact ⟨_, _, _, rfl, rfl, rfl, fun x w hI h => by unfold kindB; rw [h]; exact fits_not 1 1 x w hI⟩
  | 11, _ => exact ⟨_, _, _, rfl, rfl, rfl, fun x w hI h => by unfold kindB; rw [h]; exact fits_not 1 1 x w hI⟩
  | 12, _ => exact ⟨_, _, _, rfl, rfl, rfl, fun x w hI h => by unfold kindB; rw [h]; exact fits_try 1 2 x w hI⟩
  | 13, _ => exact ⟨_, _, _, rfl, rfl, rfl, fun x w hI h => by unfold kindB; rw [h]; exact fits_bare 1 1 x w hI⟩
end Go.Proofs.YtpiknmnhcpjfaaaGreat
