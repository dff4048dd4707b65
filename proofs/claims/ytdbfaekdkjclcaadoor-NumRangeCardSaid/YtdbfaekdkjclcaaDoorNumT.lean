
/-
  'telling' and 'divisors' of package num: the operands among which an operator takes its least and its greatest value.
-/
import Derived.Test.YtdbfaekdkjclcaaDoorNumHl
import Derived.Test.YtdbfaekdkjclcaaDoorNumK
import Derived.Deep.AppendLies
namespace Go.Proofs.YtdbfaekdkjclcaaDoor
open Go Go.RowKit

/-- Two slices of integers come back; what was there stays. -/
def Tells (w : World) (xs ys : List Int) (e : Ending) (w' : World) : Prop :=
  ∃ bx nx cx bY ny cy, e = .returned (.tuple #[.slice (some ⟨bx, 0, none⟩) nx cx, .slice (some ⟨bY, 0, none⟩) ny cy]) ∧ Ints w' bx nx xs ∧ Ints w' bY ny ys ∧ Below w.heap.size w w'

theorem ints_two {w : World} {b : Nat} {u v : Int} (h0 : w.cell? ⟨b, 0, none⟩ = some (.int .i64 u)) (h1 : w.cell? ⟨b, 1, none⟩ = some (.int .i64 v)) : Ints w b 2 [u, v] := by
  refine ⟨rfl, fun i hi => ?_⟩
  rcases (show i = 0 ∨ i = 1 by omega) with rfl | rfl
  · exact h0
  · exact h1

set_option maxHeartbeats 1000000 in
/-- The bounds alone. -/
theorem telling_plain (op a b c d : Int) (w : World) (h4 : ¬ op = 4) (h17 : op = 17 → hasB a b 0 = false) (hr : ¬ (7 ≤ op ∧ op ≤ 12)) :
    Calls Tryd.prog 24 #[.int .u8 op, .agg #[.int .i64 a, .int .i64 b], .agg #[.int .i64 c, .int .i64 d]] w (Tells w [a, b] [c, d]) := by
  have e4 : (op == 4) = false := by simpa using h4
  have er : decide (7 ≤ op ∧ op ≤ 12) = false := by simpa using hr
  by_cases h : op = 17
  · subst h
    have eh := h17 rfl
    clear h4 h17 hr
    go_enter Tryd.func24, Tryd.ntmps24
    go_wp2
    go_region_held3 (fun w' => w'.cell? ⟨w.heap.size, 0, none⟩ = some (.int .i64 a) ∧ w'.cell? ⟨w.heap.size, 1, none⟩ = some (.int .i64 b) ∧ w'.cell? ⟨w.heap.size + 1, 0, none⟩ = some (.int .i64 c) ∧ w'.cell? ⟨w.heap.size + 1, 1, none⟩ = some (.int .i64 d)) (refine ⟨?_, ?_, ?_, ?_⟩ <;> go_cell) (fail)
    all_goals
      go_wp2_with fail
      refine (has_any _ _ _ _).mono ?_; rintro e w' ⟨rfl, hb⟩; rw [eh]
      go_wp2_with fail
      refine (relational_any _ _).mono ?_; rintro e w'' ⟨rfl, hb'⟩; rw [er]
      go_wp2_with fail
      go_returns
      refine ⟨_, _, _, _, _, _, rfl, ints_two ?_ ?_, ints_two ?_ ?_, ?_⟩
      all_goals first | (refine keepC hb' (keepC hb ?_); go_cell) | (repeat' (first | (with_reducible exact Below.refl _ _) | (with_reducible assumption) | (with_reducible refine boxed ?_ _) | (with_reducible refine Below.drew ?_) | (with_reducible refine after ?_ (by assumption))))
  · have e17 : (op == 17) = false := by simpa using h
    clear h4 h17 hr
    go_enter Tryd.func24, Tryd.ntmps24
    go_wp2
    go_region_held3 (fun w' => w'.cell? ⟨w.heap.size, 0, none⟩ = some (.int .i64 a) ∧ w'.cell? ⟨w.heap.size, 1, none⟩ = some (.int .i64 b) ∧ w'.cell? ⟨w.heap.size + 1, 0, none⟩ = some (.int .i64 c) ∧ w'.cell? ⟨w.heap.size + 1, 1, none⟩ = some (.int .i64 d)) (refine ⟨?_, ?_, ?_, ?_⟩ <;> go_cell) (fail)
    all_goals
      go_wp2_with fail
      refine (relational_any _ _).mono ?_; rintro e w'' ⟨rfl, hb'⟩; rw [er]
      go_wp2_with fail
      go_returns
      refine ⟨_, _, _, _, _, _, rfl, ints_two ?_ ?_, ints_two ?_ ?_, ?_⟩
      all_goals first | (refine keepC hb' ?_; go_cell) | (repeat' (first | (with_reducible exact Below.refl _ _) | (with_reducible assumption) | (with_reducible refine boxed ?_ _) | (with_reducible refine Below.drew ?_) | (with_reducible refine after ?_ (by assumption))))

end Go.Proofs.YtdbfaekdkjclcaaDoor
