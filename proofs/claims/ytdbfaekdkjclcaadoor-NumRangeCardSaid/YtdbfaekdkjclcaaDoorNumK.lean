
/-
  INTERVALS: Meet of package num.
-/
import Derived.Test.YtdbfaekdkjclcaaDoorNumJ
namespace Go.Proofs.YtdbfaekdkjclcaaDoor
open Go Go.RowKit

/-! ### Meet -/
def meetV (a b c d : Int) : Value := if min b d < max a c then iv 1 0 else iv (max a c) (min b d)

set_option maxHeartbeats 2000000 in
theorem meet_any (a b c d : Int) (w : World) (L : Laid w) : Calls Tryd.prog 11 #[.agg #[.int .i64 a, .int .i64 b], .agg #[.int .i64 c, .int .i64 d]] w (Gives w (meetV a b c d)) := by
  have hn0 := L.n0
  have hn1 := L.n1
  have hs := L.size
  have hs0 : 0 < w.heap.size := by omega
  have EM : Hid (∀ p q, min b d = q → max a c = p → meetV a b c d = if q < p then iv 1 0 else iv p q) := fun p q e1 e2 => by subst e1 e2; rfl
  generalize hq : min b d = q at EM
  generalize hp : max a c = p at EM
  have EV := Lib.hid (EM.out p q rfl rfl)
  have HQ := Lib.hid hq
  have HP := Lib.hid hp
  clear EM hq hp
  rw [EV.out]
  by_cases h1 : q < p
  · have e1 : decide (q < p) = true := by simpa using h1
    rw [if_pos h1]
    go_enter Tryd.func11, Tryd.ntmps11
    go_wp2_with fail
    go_region_held3 (fun w' => w'.cell? ⟨w.heap.size, 0, none⟩ = some (.int .i64 a) ∧ w'.cell? ⟨w.heap.size, 1, none⟩ = some (.int .i64 b) ∧ w'.cell? ⟨w.heap.size + 1, 0, none⟩ = some (.int .i64 c) ∧ w'.cell? ⟨w.heap.size + 1, 1, none⟩ = some (.int .i64 d)) (refine ⟨?_, ?_, ?_, ?_⟩ <;> go_cell)
      (first | (go_at_call 43; refine (greatest_two _ c _ _ ?_).mono ?_; (focus go_cell); rw [HP.out]; rintro e w1 ⟨rfl, rfl⟩) | (go_at_call 42; refine (least_two _ d _ _ ?_).mono ?_; (focus go_cell); rw [HQ.out]; rintro e w1 ⟨rfl, rfl⟩))
    all_goals go_wp2_with (go_at_call 18; refine (empty_box _ _ _).mono ?_; rintro e w' ⟨rfl, rfl⟩; rw [e1])
    all_goals go_returns
    all_goals exact ⟨rfl, by go_grown⟩
  · have e1 : decide (q < p) = false := by simp; omega
    rw [if_neg h1]
    clear hn0 hn1 L
    go_enter Tryd.func11, Tryd.ntmps11
    go_wp2_with fail
    go_region_held3 (fun w' => w'.cell? ⟨w.heap.size, 0, none⟩ = some (.int .i64 a) ∧ w'.cell? ⟨w.heap.size, 1, none⟩ = some (.int .i64 b) ∧ w'.cell? ⟨w.heap.size + 1, 0, none⟩ = some (.int .i64 c) ∧ w'.cell? ⟨w.heap.size + 1, 1, none⟩ = some (.int .i64 d)) (refine ⟨?_, ?_, ?_, ?_⟩ <;> go_cell)
      (first | (go_at_call 43; refine (greatest_two _ c _ _ ?_).mono ?_; (focus go_cell); rw [HP.out]; rintro e w1 ⟨rfl, rfl⟩) | (go_at_call 42; refine (least_two _ d _ _ ?_).mono ?_; (focus go_cell); rw [HQ.out]; rintro e w1 ⟨rfl, rfl⟩))
    all_goals go_wp2_with (go_at_call 18; refine (empty_box _ _ _).mono ?_; rintro e w' ⟨rfl, rfl⟩; rw [e1])
    all_goals go_returns
    all_goals exact ⟨rfl, by go_grown⟩

end Go.Proofs.YtdbfaekdkjclcaaDoor
