
/-
  THE REFERENCE's remainder, modular.
-/
import Derived.Test.YtdbfaekdkjclcaaDoorNumQa
namespace Go.Proofs.YtdbfaekdkjclcaaDoor
open Go Go.RowKit

/-! ### remainder, modular -/
set_option maxHeartbeats 8000000 in
theorem rremainder_any (a b c d : Int) (hc : I64 c) (hd : I64 d) (hcd : ¬ d < c) (hz : ¬ (c = 0 ∧ d = 0)) (w : World) :
    Calls Tryd.prog 31 #[.agg #[.int .i64 a, .int .i64 b], .agg #[.int .i64 c, .int .i64 d]] w (Gives w (remV a b c d)) := by
  rw [← rem_same hcd hz]
  obtain ⟨c1, c2⟩ := hc
  obtain ⟨d1, d2⟩ := hd
  have HD : Hid (rdown c d = (if 0 ≤ d ∧ -d < c ∨ 0 < c then -d else c) + 1) := rfl
  generalize rdown c d = r at HD
  have zz : Hid (¬ (c = 0 ∧ d = 0)) := hz
  clear hz
  by_cases k1 : 0 ≤ d
  all_goals by_cases k2 : -d < c
  all_goals by_cases k3 : 0 < c
  all_goals try (exfalso; have := zz.out; omega)
  all_goals
    have hr := HD.out
    first
    | (rw [if_pos (by omega)] at hr; obtain rfl : -d + 1 = r := hr.symm)
    | (rw [if_neg (by omega)] at hr; obtain rfl : c + 1 = r := hr.symm)
    clear hr HD
    go_enter Tryd.func31, Tryd.ntmps31
    go_wp2
    all_goals go_returns
    all_goals exact ⟨iv_eq (by omega) (by omega), by go_grown⟩

set_option maxHeartbeats 16000000 in
theorem rmodular_any (a b c d : Int) (hc : I64 c) (hd : I64 d) (w : World) :
    Calls Tryd.prog 32 #[.agg #[.int .i64 a, .int .i64 b], .agg #[.int .i64 c, .int .i64 d]] w (Gives w (modIV a b c d)) := by
  obtain ⟨c1, c2⟩ := hc
  obtain ⟨d1, d2⟩ := hd
  by_cases p1 : 1 ≤ d
  all_goals by_cases p2 : c ≤ -1
  all_goals by_cases p3 : 0 ≤ a
  all_goals by_cases p4 : 1 ≤ c
  all_goals by_cases p5 : b ≤ 0
  all_goals by_cases p6 : d ≤ -1
  all_goals try (exfalso; omega)
  all_goals
    go_enter Tryd.func32, Tryd.ntmps32
    go_wp2
    all_goals go_returns
    all_goals exact ⟨iv_eq (by unfold modLo modLo0; repeat' split; all_goals omega) (by unfold modHi modHi0; repeat' split; all_goals omega), by go_grown⟩

end Go.Proofs.YtdbfaekdkjclcaaDoor
