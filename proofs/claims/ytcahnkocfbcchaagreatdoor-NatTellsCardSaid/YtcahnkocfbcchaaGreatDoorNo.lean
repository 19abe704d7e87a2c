/- The walk of NatSums: at every list of Nats it tells true, and nothing older changes. -/
import Derived.Test.YtcahnkocfbcchaaGreatDoorNk
import Derived.Test.YtcahnkocfbcchaaGreatDoorWh
import Derived.Test.YtcahnkocfbcchaaGreatDoorNi
import Derived.Test.YtcahnkocfbcchaaGreatDoorWs

namespace Go.Proofs.YtcahnkocfbcchaaGreatDoor
open Go.RowKit Tnd

theorem fnat_same {w : World} {B1 B2 : Nat} {v1 v2 : Value} {n k : Nat} (h1 : FNat w B1 v1 n) (h2 : FNat w B2 v2 n) (hn : n < 2 ^ k) (hk : k ≤ 1000000) :
    Calls Tryz.prog 11 #[v1, v2] w fun e w' => e = .returned (.bool true) ∧ Below w.heap.size w w' := by
  obtain ⟨pa, ca, la, rfl, _, hra, hva, _, _⟩ := h1.nat
  obtain ⟨pb, cb, lb, rfl, _, hrb, hvb, _, _⟩ := h2.nat
  have hla := len_right 4294967296 k la (by omega) hra (by rw [hva]; exact hn)
  have hlb := len_right 4294967296 k lb (by omega) hrb (by rw [hvb]; exact hn)
  exact h1.same h2 (by omega) (by omega)

end Go.Proofs.YtcahnkocfbcchaaGreatDoor
