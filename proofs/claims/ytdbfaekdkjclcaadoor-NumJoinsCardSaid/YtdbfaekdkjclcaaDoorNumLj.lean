
/-
  THE WALK OF THE LAW NumJoins.
-/
import Derived.Test.YtdbfaekdkjclcaaDoorNumLi
namespace Go.Proofs.YtdbfaekdkjclcaaDoor
open Go Go.RowKit

/-! ### what join, meet and widening contain -/
theorem joins_facts (a0 a1 b0 b1 c0 c1 v j0 j1 m0 m1 x0 x1 : Int) (ha0 : I64 a0) (ha1 : I64 a1) (hb0 : I64 b0) (hb1 : I64 b1)
    (hj : joinV a0 a1 b0 b1 = .agg #[.int .i64 j0, .int .i64 j1]) (hm : meetV a0 a1 b0 b1 = .agg #[.int .i64 m0, .int .i64 m1]) (hx : widenV a0 a1 b0 b1 c0 c1 = .agg #[.int .i64 x0, .int .i64 x1]) :
    liesB a0 a1 j0 j1 = true ∧ liesB b0 b1 j0 j1 = true ∧ liesB m0 m1 a0 a1 = true ∧ liesB m0 m1 b0 b1 = true ∧ liesB j0 j1 x0 x1 = true ∧ joinV b0 b1 a0 a1 = .agg #[.int .i64 j0, .int .i64 j1] ∧ meetV b0 b1 a0 a1 = .agg #[.int .i64 m0, .int .i64 m1] ∧
    (hasB m0 m1 v = (hasB a0 a1 v && hasB b0 b1 v)) ∧ (hasB a0 a1 v = true ∨ hasB b0 b1 v = true → hasB j0 j1 v = true) := by
  obtain ⟨p1, p2⟩ := ha0
  obtain ⟨p3, p4⟩ := ha1
  obtain ⟨p5, p6⟩ := hb0
  obtain ⟨p7, p8⟩ := hb1
  have iv_inj : ∀ {p q r s : Int}, iv p q = .agg #[.int .i64 r, .int .i64 s] → p = r ∧ q = s := fun h => by simpa [iv] using h
  have hm2 : meetV b0 b1 a0 a1 = meetV a0 a1 b0 b1 := by simp only [meetV, Int.min_comm b1 a1, Int.max_comm b0 a0]
  rw [hm2, hm]
  have hj2 : joinV b0 b1 a0 a1 = joinV a0 a1 b0 b1 := by
    unfold joinV
    by_cases h1 : b1 < b0
    · by_cases h2 : a1 < a0
      · simp [h1, h2]
      · simp [h1, h2]
    · by_cases h2 : a1 < a0
      · simp [h1, h2]
      · simp [h1, h2, Int.min_comm b0 a0, Int.max_comm b1 a1]
  rw [hj2, hj]
  have M : (m0 = 1 ∧ m1 = 0 ∧ min a1 b1 < max a0 b0) ∨ (m0 = max a0 b0 ∧ m1 = min a1 b1 ∧ ¬ min a1 b1 < max a0 b0) := by
    unfold meetV at hm
    split at hm
    · have := iv_inj hm; omega
    · have := iv_inj hm; omega
  have J : (j0 = 1 ∧ j1 = 0 ∧ a1 < a0 ∧ b1 < b0) ∨ (j0 = b0 ∧ j1 = b1 ∧ a1 < a0 ∧ ¬ b1 < b0) ∨ (j0 = a0 ∧ j1 = a1 ∧ ¬ a1 < a0 ∧ b1 < b0) ∨ (j0 = min a0 b0 ∧ j1 = max a1 b1 ∧ ¬ a1 < a0 ∧ ¬ b1 < b0) := by
    unfold joinV at hj
    split at hj
    · split at hj
      · have := iv_inj hj; omega
      · have := iv_inj hj; omega
    · split at hj
      · have := iv_inj hj; omega
      · have := iv_inj hj; omega
  have X : (x0 = j0 ∧ x1 = j1) ∨ (¬ a1 < a0 ∧ ¬ b1 < b0 ∧ x0 ≤ a0 ∧ x0 ≤ b0 ∧ a1 ≤ x1 ∧ b1 ≤ x1) := by
    unfold widenV at hx
    split at hx
    · rw [hj] at hx
      simp at hx
      omega
    · rename_i hn
      have := iv_inj hx
      right
      have l1 : wlo a0 b0 c0 ≤ a0 ∧ wlo a0 b0 c0 ≤ b0 := by
        unfold wlo
        split
        · omega
        · split
          · omega
          · omega
      have l2 : a1 ≤ whi a1 b1 c1 ∧ b1 ≤ whi a1 b1 c1 := by
        unfold whi
        split
        · omega
        · split
          · omega
          · omega
      omega
  clear hm hj hx hm2 hj2
  refine ⟨?_, ?_, ?_, ?_, ?_, rfl, rfl, ?_, ?_⟩
  · exact decide_eq_true (by omega)
  · exact decide_eq_true (by omega)
  · exact decide_eq_true (by omega)
  · exact decide_eq_true (by omega)
  · exact decide_eq_true (by omega)
  · simp only [hasB]
    rw [← Bool.decide_and]
    exact decide_eq_decide.2 (by omega)
  · intro h
    simp only [hasB, decide_eq_true_eq] at h ⊢
    omega

end Go.Proofs.YtdbfaekdkjclcaaDoor
