
/-
  WRAPPING TO 64 BITS, as the model says it and as the walks do.
-/
import Derived.Test.YtdbfaekdkjclcaaDoorNumQa
namespace Go.Proofs.YtdbfaekdkjclcaaDoor
open Go Go.RowKit

theorem i64_wrap (z : Int) : IntKind.i64.wrap z = wrap64 z := by
  unfold IntKind.wrap wrap64
  simp only [show IntKind.i64.signed = true from rfl, show IntKind.i64.bits = 64 from rfl]
  rw [show ((2 : Int) ^ 64) = 18446744073709551616 from rfl, show ((2 : Int) ^ (64 - 1)) = 9223372036854775808 from rfl]
  rw [Bool.true_and]
  by_cases h : 9223372036854775808 ≤ z % 18446744073709551616
  · rw [if_pos (decide_eq_true h)]; omega
  · rw [if_neg (by simpa using h)]; omega

end Go.Proofs.YtdbfaekdkjclcaaDoor
