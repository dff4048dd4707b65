
/-
  'moduli' of package num.
-/
import Derived.Test.YtdbfaekdkjclcaaDoorNumRm
namespace Go.Proofs.YtdbfaekdkjclcaaDoor
open Go Go.RowKit

def modHi0 (d : Int) : Int := if 0 < d then d - 1 else 0
def modLo0 (c : Int) : Int := if c < 0 then c + 1 else 0
def modHi (a b c d : Int) : Int := if 0 ≤ a ∧ 1 ≤ c then min (modHi0 d) b else modHi0 d
def modLo (a b c d : Int) : Int := if b ≤ 0 ∧ d ≤ -1 then max (modLo0 c) a else modLo0 c
def modIV (a b c d : Int) : Value := iv (modLo a b c d) (modHi a b c d)

set_option maxHeartbeats 4000000 in
theorem moduli_any (a b c d : Int) (w : World) (hc : I64 c) (hd : I64 d) : Calls Tryd.prog 22 #[.agg #[.int .i64 a, .int .i64 b], .agg #[.int .i64 c, .int .i64 d]] w (Gives w (modIV a b c d)) := by
  obtain ⟨hc1, hc2⟩ := hc
  obtain ⟨hd1, hd2⟩ := hd
  have EV : Hid (∀ x y, modLo a b c d = x → modHi a b c d = y → Ending.returned (.agg #[.int .i64 x, .int .i64 y]) = Ending.returned (modIV a b c d)) := fun x y e1 e2 => by subst e1 e2; rfl
  by_cases h1 : 0 < d
  all_goals by_cases h2 : c < 0
  all_goals by_cases h3 : 0 ≤ a
  all_goals by_cases h4 : 1 ≤ c
  all_goals by_cases h5 : b ≤ 0
  all_goals by_cases h6 : d ≤ -1
  all_goals first
    | (exfalso; omega)
    | (go_enter Tryd.func22, Tryd.ntmps22
       go_wp2_with (first | (go_at_call 42; refine (least_two _ b _ _ ?_).mono ?_; (focus go_cell); rintro e w1 ⟨rfl, rfl⟩) | (go_at_call 43; refine (greatest_two _ a _ _ ?_).mono ?_; (focus go_cell); rintro e w1 ⟨rfl, rfl⟩))
       go_returns
       exact ⟨EV.out _ _ (by unfold modLo modLo0; (repeat' split) <;> omega) (by unfold modHi modHi0; (repeat' split) <;> omega), by go_grown⟩)

end Go.Proofs.YtdbfaekdkjclcaaDoor
