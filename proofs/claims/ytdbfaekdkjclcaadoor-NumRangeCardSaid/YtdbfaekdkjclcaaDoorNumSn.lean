
/-
  THE CORNERS: among the operands that 'telling' names an operator takes a value at most, and one at least, that of any operands of both intervals.
-/
import Derived.Test.YtdbfaekdkjclcaaDoorNumSm
import Derived.Test.YtdbfaekdkjclcaaDoorNumR
namespace Go.Proofs.YtdbfaekdkjclcaaDoor
open Go Go.RowKit

theorem x_first (op a b c d : Int) : a ∈ tellX op a b c d ∧ b ∈ tellX op a b c d := by
  unfold tellX
  split
  · split <;> simp
  · split
    · split <;> simp
    · simp
theorem y_first {op : Int} (h : ¬ op = 4) (a b c d : Int) : c ∈ tellY op a b c d ∧ d ∈ tellY op a b c d := by
  unfold tellY
  rw [if_neg h]
  split
  · split <;> simp
  · simp

/-- The relation of an operator. -/
def relB (op x y : Int) : Bool :=
  if op = 7 then x == y else if op = 8 then !(x == y) else if op = 9 then decide (x < y) else if op = 10 then decide (x ≤ y) else if op = 11 then decide (y < x) else decide (y ≤ x)
theorem rel_val {op : Int} (h7 : 7 ≤ op) (h12 : op ≤ 12) (x y : Int) : exV op x y = tv (relB op x y) := by
  rcases (show op = 7 ∨ op = 8 ∨ op = 9 ∨ op = 10 ∨ op = 11 ∨ op = 12 by omega) with rfl | rfl | rfl | rfl | rfl | rfl <;> rfl
theorem tv_le (b c : Bool) (h : b = true → c = true) : tv b ≤ tv c := by
  cases b <;> cases c <;> simp_all [tv]

/-- For a relation: a corner at which it fails if it fails somewhere, and one at which it holds if it holds somewhere. -/
theorem rel_corners {op a0 a1 b0 b1 x y : Int} (h7 : 7 ≤ op) (h12 : op ≤ 12) (h1 : a0 ≤ x) (h2 : x ≤ a1) (h3 : b0 ≤ y) (h4 : y ≤ b1) :
    (∃ u ∈ tellX op a0 a1 b0 b1, ∃ v ∈ tellY op a0 a1 b0 b1, relB op u v = true → relB op x y = true) ∧ (∃ u ∈ tellX op a0 a1 b0 b1, ∃ v ∈ tellY op a0 a1 b0 b1, relB op x y = true → relB op u v = true) := by
  obtain ⟨mx0, mx1⟩ := x_first op a0 a1 b0 b1
  obtain ⟨my0, my1⟩ := y_first (op := op) (by omega) a0 a1 b0 b1
  have meet : ¬ min a1 b1 < max a0 b0 → max a0 b0 ∈ tellX op a0 a1 b0 b1 ∧ max a0 b0 ∈ tellY op a0 a1 b0 b1 := fun h => by
    unfold tellX tellY
    rw [if_neg (show ¬ op = 17 by omega), if_pos ⟨h7, h12⟩, if_neg h, if_neg (show ¬ op = 4 by omega), if_pos ⟨h7, h12⟩, if_neg h]
    simp
  -- a pair that differs, or one that is equal
  have diff : x ≠ y → ∃ u ∈ tellX op a0 a1 b0 b1, ∃ v ∈ tellY op a0 a1 b0 b1, u ≠ v := fun h => by
    by_cases e1 : a0 = b0
    · by_cases e2 : a0 = b1
      · refine ⟨a1, mx1, b0, my0, by omega⟩
      · exact ⟨a0, mx0, b1, my1, e2⟩
    · exact ⟨a0, mx0, b0, my0, e1⟩
  have same : x = y → ∃ u ∈ tellX op a0 a1 b0 b1, ∃ v ∈ tellY op a0 a1 b0 b1, u = v := fun h => by
    obtain ⟨m1, m2⟩ := meet (by omega)
    exact ⟨_, m1, _, m2, rfl⟩
  rcases (show op = 7 ∨ op = 8 ∨ op = 9 ∨ op = 10 ∨ op = 11 ∨ op = 12 by omega) with rfl | rfl | rfl | rfl | rfl | rfl
  · constructor
    · by_cases e : x = y
      · exact ⟨a0, mx0, b0, my0, fun _ => by simp [relB, e]⟩
      · obtain ⟨u, hu, v, hv, h⟩ := diff e
        exact ⟨u, hu, v, hv, fun hh => absurd (by simpa [relB] using hh) h⟩
    · by_cases e : x = y
      · obtain ⟨u, hu, v, hv, h⟩ := same e
        exact ⟨u, hu, v, hv, fun _ => by simp [relB, h]⟩
      · exact ⟨a0, mx0, b0, my0, fun hh => absurd (by simpa [relB] using hh) e⟩
  · constructor
    · by_cases e : x = y
      · obtain ⟨u, hu, v, hv, h⟩ := same e
        exact ⟨u, hu, v, hv, fun hh => absurd h (by simpa [relB] using hh)⟩
      · exact ⟨a0, mx0, b0, my0, fun _ => by simp [relB, e]⟩
    · by_cases e : x = y
      · exact ⟨a0, mx0, b0, my0, fun hh => absurd e (by simpa [relB] using hh)⟩
      · obtain ⟨u, hu, v, hv, h⟩ := diff e
        exact ⟨u, hu, v, hv, fun _ => by simp [relB, h]⟩
  · exact ⟨⟨a1, mx1, b0, my0, fun h => by simp [relB] at h ⊢; omega⟩, ⟨a0, mx0, b1, my1, fun h => by simp [relB] at h ⊢; omega⟩⟩
  · exact ⟨⟨a1, mx1, b0, my0, fun h => by simp [relB] at h ⊢; omega⟩, ⟨a0, mx0, b1, my1, fun h => by simp [relB] at h ⊢; omega⟩⟩
  · exact ⟨⟨a0, mx0, b1, my1, fun h => by simp [relB] at h ⊢; omega⟩, ⟨a1, mx1, b0, my0, fun h => by simp [relB] at h ⊢; omega⟩⟩
  · exact ⟨⟨a0, mx0, b1, my1, fun h => by simp [relB] at h ⊢; omega⟩, ⟨a1, mx1, b0, my0, fun h => by simp [relB] at h ⊢; omega⟩⟩

/-- THE CORNERS. -/
theorem corners {op a0 a1 b0 b1 x y : Int} (hop1 : 1 ≤ op) (hop2 : op ≤ 18) (h5 : ¬ op = 5) (h6 : ¬ op = 6) (h1 : a0 ≤ x) (h2 : x ≤ a1) (h3 : b0 ≤ y) (h4 : y ≤ b1) (hb0 : I64v b0) (hb1 : I64v b1) (hz : op = 4 → ¬ y = 0)
    (hl : 13 ≤ op ∧ op ≤ 15 → 0 ≤ a0 ∧ a1 ≤ 1 ∧ 0 ≤ b0 ∧ b1 ≤ 1) :
    (∃ u ∈ tellX op a0 a1 b0 b1, ∃ v ∈ tellY op a0 a1 b0 b1, exV op u v ≤ exV op x y) ∧ (∃ u ∈ tellX op a0 a1 b0 b1, ∃ v ∈ tellY op a0 a1 b0 b1, exV op x y ≤ exV op u v) := by
  obtain ⟨mx0, mx1⟩ := x_first op a0 a1 b0 b1
  by_cases hr : 7 ≤ op ∧ op ≤ 12
  · obtain ⟨⟨u, hu, v, hv, e1⟩, ⟨u', hu', v', hv', e2⟩⟩ := rel_corners hr.1 hr.2 h1 h2 h3 h4
    refine ⟨⟨u, hu, v, hv, ?_⟩, ⟨u', hu', v', hv', ?_⟩⟩
    · rw [rel_val hr.1 hr.2, rel_val hr.1 hr.2]; exact tv_le _ _ e1
    · rw [rel_val hr.1 hr.2, rel_val hr.1 hr.2]; exact tv_le _ _ e2
  · by_cases hq : op = 4
    · subst hq
      have hy := hz rfl
      unfold I64v at hb0 hb1
      have ey : tellY 4 a0 a1 b0 b1 = divL b0 b1 := rfl
      have ex : ∀ u v, exV 4 u v = u.tdiv v := fun _ _ => rfl
      simp only [ex, ey]
      by_cases hn : y < 0
      · have m1 : max b0 (-9223372036854775808) ∈ divL b0 b1 ∧ min b1 (-1) ∈ divL b0 b1 := by
          unfold divL
          rw [if_neg (show ¬ min b1 (-1) < max b0 (-9223372036854775808) by omega)]
          simp
        obtain ⟨u, v, hu, hv, e1⟩ := div_low (p := max b0 (-9223372036854775808)) (q := min b1 (-1)) (y := y) h1 h2 (by omega) (by omega) (Or.inr (by omega))
        obtain ⟨u', v', hu', hv', e2⟩ := div_high (p := max b0 (-9223372036854775808)) (q := min b1 (-1)) (y := y) h1 h2 (by omega) (by omega) (Or.inr (by omega))
        refine ⟨⟨u, by rcases hu with rfl | rfl; exact mx0; exact mx1, v, by rcases hv with rfl | rfl; exact m1.1; exact m1.2, e1⟩, ⟨u', by rcases hu' with rfl | rfl; exact mx0; exact mx1, v', by rcases hv' with rfl | rfl; exact m1.1; exact m1.2, e2⟩⟩
      · have m1 : max b0 1 ∈ divL b0 b1 ∧ min b1 9223372036854775807 ∈ divL b0 b1 := by
          unfold divL
          rw [if_neg (show ¬ min b1 9223372036854775807 < max b0 1 by omega)]
          simp
        obtain ⟨u, v, hu, hv, e1⟩ := div_low (p := max b0 1) (q := min b1 9223372036854775807) (y := y) h1 h2 (by omega) (by omega) (Or.inl (by omega))
        obtain ⟨u', v', hu', hv', e2⟩ := div_high (p := max b0 1) (q := min b1 9223372036854775807) (y := y) h1 h2 (by omega) (by omega) (Or.inl (by omega))
        refine ⟨⟨u, by rcases hu with rfl | rfl; exact mx0; exact mx1, v, by rcases hv with rfl | rfl; exact m1.1; exact m1.2, e1⟩, ⟨u', by rcases hu' with rfl | rfl; exact mx0; exact mx1, v', by rcases hv' with rfl | rfl; exact m1.1; exact m1.2, e2⟩⟩
    · obtain ⟨my0, my1⟩ := y_first hq a0 a1 b0 b1
      rcases (show op = 1 ∨ op = 2 ∨ op = 3 ∨ (13 ≤ op ∧ op ≤ 15) ∨ op = 16 ∨ op = 17 ∨ op = 18 by omega) with rfl | rfl | rfl | hb | rfl | rfl | rfl
      · exact ⟨⟨a0, mx0, b0, my0, show a0 + b0 ≤ x + y by omega⟩, ⟨a1, mx1, b1, my1, show x + y ≤ a1 + b1 by omega⟩⟩
      · exact ⟨⟨a0, mx0, b1, my1, show a0 - b1 ≤ x - y by omega⟩, ⟨a1, mx1, b0, my0, show x - y ≤ a1 - b0 by omega⟩⟩
      · obtain ⟨u, v, hu, hv, e1⟩ := mul_low h1 h2 h3 h4
        obtain ⟨u', v', hu', hv', e2⟩ := mul_high h1 h2 h3 h4
        exact ⟨⟨u, by rcases hu with rfl | rfl; exact mx0; exact mx1, v, by rcases hv with rfl | rfl; exact my0; exact my1, e1⟩, ⟨u', by rcases hu' with rfl | rfl; exact mx0; exact mx1, v', by rcases hv' with rfl | rfl; exact my0; exact my1, e2⟩⟩
      · obtain ⟨l1, l2, l3, l4⟩ := hl hb
        have hx : x ∈ tellX op a0 a1 b0 b1 := by
          rcases (show x = a0 ∨ x = a1 by omega) with rfl | rfl
          · exact mx0
          · exact mx1
        have hy : y ∈ tellY op a0 a1 b0 b1 := by
          rcases (show y = b0 ∨ y = b1 by omega) with rfl | rfl
          · exact my0
          · exact my1
        exact ⟨⟨x, hx, y, hy, Int.le_refl _⟩, ⟨x, hx, y, hy, Int.le_refl _⟩⟩
      · exact ⟨⟨a1, mx1, b0, my0, show 0 - a1 ≤ 0 - x by omega⟩, ⟨a0, mx0, b0, my0, show 0 - x ≤ 0 - a0 by omega⟩⟩
      · have ex : ∀ u v, exV 17 u v = if 0 ≤ u then u else 0 - u := fun _ _ => rfl
        simp only [ex]
        constructor
        · by_cases h0 : a0 ≤ 0 ∧ 0 ≤ a1
          · have m0 : (0 : Int) ∈ tellX 17 a0 a1 b0 b1 := by
              unfold tellX
              rw [if_pos rfl, if_pos (show hasB a0 a1 0 = true from decide_eq_true h0)]
              simp
            exact ⟨0, m0, b0, my0, by simp; split <;> omega⟩
          · by_cases h7 : 0 < a0
            · exact ⟨a0, mx0, b0, my0, by rw [if_pos (by omega), if_pos (by omega)]; omega⟩
            · exact ⟨a1, mx1, b0, my0, by rw [if_neg (by omega), if_neg (by omega)]; omega⟩
        · by_cases h0 : 0 ≤ x
          · exact ⟨a1, mx1, b0, my0, by rw [if_pos h0, if_pos (by omega)]; omega⟩
          · exact ⟨a0, mx0, b0, my0, by rw [if_neg h0, if_neg (by omega)]; omega⟩
      · exact ⟨⟨a1, mx1, b0, my0, show 1 - a1 ≤ 1 - x by omega⟩, ⟨a0, mx0, b0, my0, show 1 - x ≤ 1 - a0 by omega⟩⟩

end Go.Proofs.YtdbfaekdkjclcaaDoor
