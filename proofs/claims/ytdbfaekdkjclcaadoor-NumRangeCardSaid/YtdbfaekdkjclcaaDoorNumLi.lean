
/-
  THE WALK OF THE LAW NumIvals.
-/
import Derived.Test.YtdbfaekdkjclcaaDoorNumRa
import Derived.Test.YtdbfaekdkjclcaaDoorNumO
namespace Go.Proofs.YtdbfaekdkjclcaaDoor
open Go Go.RowKit

theorem meet_iv (a b c d : Int) : ∃ p q, meetV a b c d = .agg #[.int .i64 p, .int .i64 q] := by
  unfold meetV
  split <;> exact ⟨_, _, rfl⟩
theorem widen_iv (a b c d p q : Int) : ∃ x y, widenV a b c d p q = .agg #[.int .i64 x, .int .i64 y] := by
  unfold widenV
  split
  · exact join_iv a b c d
  · exact ⟨_, _, rfl⟩

end Go.Proofs.YtdbfaekdkjclcaaDoor
