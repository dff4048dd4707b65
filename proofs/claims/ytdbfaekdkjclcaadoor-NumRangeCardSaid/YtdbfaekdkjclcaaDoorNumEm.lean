
/-
  WIDENING ENDS: a measure that each change of an interval lowers; it begins at 5 at most. Plain mathematics.
-/
import Derived.Test.YtdbfaekdkjclcaaDoorNumV
namespace Go.Proofs.YtdbfaekdkjclcaaDoor
open Go Go.RowKit

/-- How often a lower bound can still change. -/
def lowPot (x c : Int) : Nat := if x = -9223372036854775808 then 0 else if x = c then 1 else 2
/-- How often an upper bound can still change. -/
def highPot (x c : Int) : Nat := if x = 9223372036854775807 then 0 else if x = c then 1 else 2
/-- How often an interval can still change. -/
def pot (a0 a1 c0 c1 : Int) : Nat := if a1 < a0 then 5 else lowPot a0 c0 + highPot a1 c1

theorem lowPot_le (x c : Int) : lowPot x c ≤ 2 := by unfold lowPot; split; omega; split <;> omega
theorem highPot_le (x c : Int) : highPot x c ≤ 2 := by unfold highPot; split; omega; split <;> omega
theorem pot_le (a0 a1 c0 c1 : Int) : pot a0 a1 c0 c1 ≤ 5 := by
  unfold pot
  have := lowPot_le a0 c0
  have := highPot_le a1 c1
  split <;> omega

theorem low_step (a b c : Int) (hb : -9223372036854775808 ≤ b) : lowPot (wlo a b c) c + (if wlo a b c = a then 0 else 1) ≤ lowPot a c ∧ wlo a b c ≤ a := by
  unfold wlo
  by_cases h1 : a ≤ b
  · simp [h1]
  · rw [if_neg h1]
    by_cases h2 : c ≤ b
    · rw [if_pos h2, if_neg (by omega)]
      unfold lowPot
      rw [if_neg (show ¬ a = _ by omega), if_neg (show ¬ a = c by omega)]
      split
      · omega
      · simp; omega
    · rw [if_neg h2, if_neg (by omega)]
      unfold lowPot
      rw [if_neg (show ¬ a = _ by omega), if_pos rfl]
      split <;> omega
theorem high_step (a b c : Int) (hb : b ≤ 9223372036854775807) : highPot (whi a b c) c + (if whi a b c = a then 0 else 1) ≤ highPot a c ∧ a ≤ whi a b c := by
  unfold whi
  by_cases h1 : b ≤ a
  · simp [h1]
  · rw [if_neg h1]
    by_cases h2 : b ≤ c
    · rw [if_pos h2, if_neg (by omega)]
      unfold highPot
      rw [if_neg (show ¬ a = _ by omega), if_neg (show ¬ a = c by omega)]
      split
      · omega
      · simp; omega
    · rw [if_neg h2, if_neg (by omega)]
      unfold highPot
      rw [if_neg (show ¬ a = _ by omega), if_pos rfl]
      split <;> omega

/-- Is this change counted? -/
def counted (a0 a1 n0 n1 : Int) : Bool := decide (¬ (n0 = a0 ∧ n1 = a1) ∧ (a0 ≤ a1 ∨ n0 ≤ n1))

theorem pot_step {a0 a1 b0 b1 c0 c1 n0 n1 : Int} (hb0 : -9223372036854775808 ≤ b0) (hb1 : b1 ≤ 9223372036854775807)
    (h : widenV a0 a1 b0 b1 c0 c1 = .agg #[.int .i64 n0, .int .i64 n1]) : pot n0 n1 c0 c1 + (if counted a0 a1 n0 n1 = true then 1 else 0) ≤ pot a0 a1 c0 c1 := by
  have iv_inj : ∀ {p q r s : Int}, iv p q = .agg #[.int .i64 r, .int .i64 s] → p = r ∧ q = s := fun h => by simpa [iv] using h
  by_cases ha : a1 < a0
  · have h5 : pot a0 a1 c0 c1 = 5 := by unfold pot; rw [if_pos ha]
    rw [h5]
    by_cases hn : n1 < n0
    · have hc : counted a0 a1 n0 n1 = false := by unfold counted; exact decide_eq_false (by omega)
      rw [hc]
      have := pot_le n0 n1 c0 c1
      simp; omega
    · have : pot n0 n1 c0 c1 ≤ 4 := by
        unfold pot
        rw [if_neg hn]
        have := lowPot_le n0 c0
        have := highPot_le n1 c1
        omega
      split <;> omega
  · by_cases hb : b1 < b0
    · unfold widenV joinV at h
      rw [if_pos (Or.inr hb), if_neg ha, if_pos hb] at h
      obtain ⟨rfl, rfl⟩ := iv_inj h
      have hc : counted a0 a1 a0 a1 = false := by unfold counted; exact decide_eq_false (by omega)
      rw [hc]
      simp
    · unfold widenV at h
      rw [if_neg (by omega)] at h
      obtain ⟨h0, h1⟩ := iv_inj h
      obtain ⟨l1, l2⟩ := low_step a0 b0 c0 hb0
      obtain ⟨r1, r2⟩ := high_step a1 b1 c1 hb1
      rw [h0] at l1 l2
      rw [h1] at r1 r2
      unfold pot
      rw [if_neg ha, if_neg (by omega)]
      split
      · rename_i hc
        have := of_decide_eq_true hc
        by_cases e0 : n0 = a0
        · rw [if_pos e0] at l1
          rw [if_neg (by omega)] at r1
          omega
        · rw [if_neg e0] at l1
          split at r1 <;> omega
      · split at l1 <;> split at r1 <;> omega

end Go.Proofs.YtdbfaekdkjclcaaDoor
