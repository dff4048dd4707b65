
/-
  THE REFERENCE's Range: its interval is that of package num.
-/
import Derived.Test.YtdbfaekdkjclcaaDoorNumQd
import Derived.Test.YtdbfaekdkjclcaaDoorNumXw
namespace Go.Proofs.YtdbfaekdkjclcaaDoor
open Go Go.RowKit

/-- WHAT Range's OWN BLOCKS HOLD: both intervals, the result. -/
structure FBox (w : World) (a b c d : Int) (W : World) : Prop where
  a0 : W.cell? ⟨w.heap.size, 0, none⟩ = some (.int .i64 a)
  a1 : W.cell? ⟨w.heap.size, 1, none⟩ = some (.int .i64 b)
  b0 : W.cell? ⟨w.heap.size + 1, 0, none⟩ = some (.int .i64 c)
  b1 : W.cell? ⟨w.heap.size + 1, 1, none⟩ = some (.int .i64 d)
  vR : Var2 w W (w.heap.size + 1 + 1) 0 0
  bel : Below w.heap.size w W
theorem FBox.below {w : World} {a b c d : Int} {W w1 : World} (h : FBox w a b c d W) (hb : Below W.heap.size W w1) : FBox w a b c d w1 :=
  ⟨keepC hb h.a0, keepC hb h.a1, keepC hb h.b0, keepC hb h.b1, h.vR.below hb, after h.bel hb⟩
theorem FBox.start (w : World) (a b c d : Int) : FBox w a b c d (((w.alloc (.cells #[.int .i64 a, .int .i64 b] 24)).alloc (.cells #[.int .i64 c, .int .i64 d] 24)).alloc (.cells #[.int .i64 0, .int .i64 0] 24)) :=
  ⟨by go_cell, by go_cell, by go_cell, by go_cell, (by simpa using Var2.made (w := w) (W := (w.alloc (.cells #[.int .i64 a, .int .i64 b] 24)).alloc (.cells #[.int .i64 c, .int .i64 d] 24)) (by simp; omega) 0 0), by go_grown⟩
theorem FBox.alloc {w : World} {a b c d : Int} {W : World} (h : FBox w a b c d W) (x : Obj) : FBox w a b c d (W.alloc x) := h.below ((Below.refl _ _).alloc (Nat.le_refl _) x)
theorem FBox.done {w : World} {a b c d : Int} {W : World} (h : FBox w a b c d W) (u v : Value) : Below w.heap.size w ((W.setCell ⟨w.heap.size + 1 + 1, 0, none⟩ u).setCell ⟨w.heap.size + 1 + 1, 1, none⟩ v) :=
  Below.setCell (Below.setCell h.bel (by dsimp only; omega) _) (by dsimp only; omega) _

end Go.Proofs.YtdbfaekdkjclcaaDoor
