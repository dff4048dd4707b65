
/-
  'below', 'remainders' and 'moduli' of package num.
-/
import Derived.Test.YtdbfaekdkjclcaaDoorNumTd
namespace Go.Proofs.YtdbfaekdkjclcaaDoor
open Go Go.RowKit

/-- An int64. -/
def I64 (v : Int) : Prop := -9223372036854775808 ≤ v ∧ v ≤ 9223372036854775807

def belowV (v : Int) : Int := if v < 0 then -(v + 1) else v - 1

theorem below_any (v : Int) (h1 : -9223372036854775808 ≤ v) (h2 : v ≤ 9223372036854775807) (w : World) : Calls Tryd.prog 49 #[.int .i64 v] w fun e w' => e = .returned (.int .i64 (belowV v)) ∧ w = w' := by
  by_cases h : v < 0
  · rw [show belowV v = -(v + 1) by rw [belowV, if_pos h]]
    go_enter Tryd.func49, Tryd.ntmps49
    go_wp2
    go_returns
    exact ⟨rfl, rfl⟩
  · rw [show belowV v = v - 1 by rw [belowV, if_neg h]]
    go_enter Tryd.func49, Tryd.ntmps49
    go_wp2
    go_returns
    exact ⟨rfl, rfl⟩

theorem iv_eq {p q x y : Int} (h1 : p = x) (h2 : q = y) : Ending.returned (.agg #[.int .i64 p, .int .i64 q]) = Ending.returned (iv x y) := by subst h1 h2; rfl

def remM (c d : Int) : Int := max (belowV c) (belowV d)
def remV (a b c d : Int) : Value := iv (min 0 (max a (-(remM c d)))) (max 0 (min b (remM c d)))

set_option maxHeartbeats 2000000 in
theorem remainders_any (a b c d : Int) (w : World) (hc : I64 c) (hd : I64 d) : Calls Tryd.prog 21 #[.agg #[.int .i64 a, .int .i64 b], .agg #[.int .i64 c, .int .i64 d]] w (Gives w (remV a b c d)) := by
  obtain ⟨hc1, hc2⟩ := hc
  obtain ⟨hd1, hd2⟩ := hd
  have hm : -1 ≤ remM c d ∧ remM c d ≤ 9223372036854775807 := by
    unfold remM belowV
    constructor
    · split <;> split <;> omega
    · split <;> split <;> omega
  have HM : Hid (max (belowV c) (belowV d) = remM c d) := rfl
  have HV : Hid (remV a b c d = iv (min 0 (max a (-(remM c d)))) (max 0 (min b (remM c d)))) := rfl
  generalize remM c d = m at hm HM HV
  obtain ⟨hm1, hm2⟩ := hm
  rw [HV.out]
  have hm3 : -9223372036854775808 ≤ -m := by omega
  clear HV
  have HW : Hid (IntKind.i64.wrap (-m) = -m) := IntWalk.i64_in _ (by omega)
  go_enter Tryd.func21, Tryd.ntmps21
  go_wp2
  go_region_held3 (fun w' => w'.cell? ⟨w.heap.size, 0, none⟩ = some (.int .i64 a) ∧ w'.cell? ⟨w.heap.size, 1, none⟩ = some (.int .i64 b) ∧ w'.cell? ⟨w.heap.size + 1, 0, none⟩ = some (.int .i64 c) ∧ w'.cell? ⟨w.heap.size + 1, 1, none⟩ = some (.int .i64 d)) (refine ⟨?_, ?_, ?_, ?_⟩ <;> go_cell)
    (first
      | (go_at_call 49; refine (below_any _ (by omega) (by omega) _).mono ?_; rintro e w1 ⟨rfl, rfl⟩)
      | (go_at_call 43; refine (greatest_two _ (belowV d) _ _ ?_).mono ?_; (focus go_cell); rw [HM.out]; rintro e w1 ⟨rfl, rfl⟩))
  all_goals
    go_wp2
    have hwm := HW.out
    go_region_held3 (fun w' => w'.cell? ⟨w.heap.size, 0, none⟩ = some (.int .i64 a) ∧ w'.cell? ⟨w.heap.size, 1, none⟩ = some (.int .i64 b)) (refine ⟨?_, ?_⟩ <;> go_cell)
      (first
        | (go_at_call_of 43 (Value.int IntKind.i64 a); refine (greatest_two a (-m) _ _ ?_).mono ?_; (focus go_cell); rintro e w1 ⟨rfl, rfl⟩)
        | (go_at_call_of 43 (Value.int IntKind.i64 0); refine (greatest_two 0 (min b m) _ _ ?_).mono ?_; (focus go_cell); rintro e w1 ⟨rfl, rfl⟩)
        | (go_at_call_of 42 (Value.int IntKind.i64 0); refine (least_two 0 (max a (-m)) _ _ ?_).mono ?_; (focus go_cell); rintro e w1 ⟨rfl, rfl⟩)
        | (go_at_call_of 42 (Value.int IntKind.i64 b); refine (least_two b m _ _ ?_).mono ?_; (focus go_cell); rintro e w1 ⟨rfl, rfl⟩))
    all_goals
      go_wp2
      go_returns
      exact ⟨rfl, by go_grown⟩

end Go.Proofs.YtdbfaekdkjclcaaDoor
