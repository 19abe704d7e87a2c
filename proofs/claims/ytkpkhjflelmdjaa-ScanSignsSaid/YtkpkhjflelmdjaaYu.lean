/- What was told, compared; a scan that is none: the walk of the law. -/
import Derived.Test.YtkpkhjflelmdjaaYt
namespace Go.Proofs.Ytkpkhjflelmdjaa
open Go.RowKit Tnd

theorem told_stood : Try.prog.stoodInHeld 37 = false := by kernel_rfl
theorem told_guard : Try.prog.eqGuardType Try.prog.depth 37 = false := by kernel_rfl
theorem told_fields : Try.prog.underlying 37 = some (.struct (Try.prog.fieldsOf 37)) := by kernel_rfl
theorem told_equal (d : Nat) (n m a : Int) (s : ByteArray) (o q : Bool) (w : World) : (Op.equalIn (d + 2) 37 (.agg (tvl n m a s o q)) (.agg (tvl n m a s o q))).run Try.prog w = .ok true w := by
  unfold tvl
  rw [run_equalIn_agg _ _ _ _ _ told_fields told_stood]
  simp only [Program.fieldsOf, Try.underlying37]
  simp [Op.eqFields, part, run_equalIn_int, run_equalIn_string, run_equalIn_bool, Try.underlying3, Try.underlying9, Try.underlying4]
theorem told_neq (n m a : Int) (s : ByteArray) (o q : Bool) (w : World) : (binOp .neq 37 (.agg (tvl n m a s o q)) (.agg (tvl n m a s o q))).run Try.prog w = .ok (.bool false) w := by
  simp only [binOp]
  simp [Op.equal, Op.maxDepth, told_equal 9998]
end Go.Proofs.Ytkpkhjflelmdjaa
