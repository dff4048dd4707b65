
/-
  THE LAW NumJoins, from its walk.
-/
import Derived.Test.YtdbfaekdkjclcaaDoorNumLk
namespace Go.Proofs.YtdbfaekdkjclcaaDoor
open Go Go.RowKit

theorem law_numJoins (a0 a1 b0 b1 c0 c1 v : Int) (w : World) (L : Laid w) (ha0 : I64 a0) (ha1 : I64 a1) (hb0 : I64 b0) (hb1 : I64 b1) (_hc0 : I64 c0) (_hc1 : I64 c1) (_hv : I64 v) :
    Calls Tryd.prog 4 #[.agg #[.int .i64 a0, .int .i64 a1], .agg #[.int .i64 b0, .int .i64 b1], .agg #[.int .i64 c0, .int .i64 c1], .int .i64 v] w (Gives w (.bool true)) := by
  obtain ⟨j0, j1, hj⟩ := join_iv a0 a1 b0 b1
  obtain ⟨m0, m1, hm⟩ := meet_iv a0 a1 b0 b1
  obtain ⟨x0, x1, hx⟩ := widen_iv a0 a1 b0 b1 c0 c1
  exact joins_first a0 a1 b0 b1 c0 c1 v j0 j1 m0 m1 x0 x1 w L ha0 ha1 hb0 hb1 hj hm hx

end Go.Proofs.YtdbfaekdkjclcaaDoor
