
/-
  PLAIN ARITHMETIC: sums, products, quotients of integers within bounds; no program stands here.
-/
import Derived.Test.YtdbfaekdkjclcaaDoorRows
import Derived.RowKit
namespace Go.Proofs.YtdbfaekdkjclcaaDoor
open Go Go.RowKit

/-! ### products -/
theorem mul_low {a0 a1 b0 b1 x y : Int} (h1 : a0 ≤ x) (h2 : x ≤ a1) (h3 : b0 ≤ y) (h4 : y ≤ b1) : ∃ u v, (u = a0 ∨ u = a1) ∧ (v = b0 ∨ v = b1) ∧ u * v ≤ x * y := by
  have step : ∃ u, (u = a0 ∨ u = a1) ∧ u * y ≤ x * y := by
    by_cases hy : 0 ≤ y
    · exact ⟨a0, Or.inl rfl, Int.mul_le_mul_of_nonneg_right h1 hy⟩
    · exact ⟨a1, Or.inr rfl, Int.mul_le_mul_of_nonpos_right h2 (by omega)⟩
  obtain ⟨u, hu, hle⟩ := step
  by_cases h : 0 ≤ u
  · exact ⟨u, b0, hu, Or.inl rfl, Int.le_trans (Int.mul_le_mul_of_nonneg_left h3 h) hle⟩
  · exact ⟨u, b1, hu, Or.inr rfl, Int.le_trans (Int.mul_le_mul_of_nonpos_left (by omega) h4) hle⟩
theorem mul_high {a0 a1 b0 b1 x y : Int} (h1 : a0 ≤ x) (h2 : x ≤ a1) (h3 : b0 ≤ y) (h4 : y ≤ b1) : ∃ u v, (u = a0 ∨ u = a1) ∧ (v = b0 ∨ v = b1) ∧ x * y ≤ u * v := by
  have step : ∃ u, (u = a0 ∨ u = a1) ∧ x * y ≤ u * y := by
    by_cases hy : 0 ≤ y
    · exact ⟨a1, Or.inr rfl, Int.mul_le_mul_of_nonneg_right h2 hy⟩
    · exact ⟨a0, Or.inl rfl, Int.mul_le_mul_of_nonpos_right h1 (by omega)⟩
  obtain ⟨u, hu, hle⟩ := step
  by_cases h : 0 ≤ u
  · exact ⟨u, b1, hu, Or.inr rfl, Int.le_trans hle (Int.mul_le_mul_of_nonneg_left h4 h)⟩
  · exact ⟨u, b0, hu, Or.inl rfl, Int.le_trans hle (Int.mul_le_mul_of_nonpos_left (by omega) h3)⟩

/-! ### quotients -/
theorem tdiv_mono {x x' y : Int} (h : x ≤ x') (hy : 0 < y) : x.tdiv y ≤ x'.tdiv y := by
  by_cases h0 : 0 ≤ x
  · rw [Int.tdiv_eq_ediv_of_nonneg h0, Int.tdiv_eq_ediv_of_nonneg (by omega)]
    exact Int.ediv_le_ediv hy h
  · by_cases h1 : 0 ≤ x'
    · have e1 : x.tdiv y ≤ 0 := by
        have := Int.tdiv_nonneg (a := -x) (b := y) (by omega) (by omega)
        rw [Int.neg_tdiv] at this
        omega
      have e2 := Int.tdiv_nonneg (a := x') (b := y) h1 (by omega)
      omega
    · have e1 : (-x').tdiv y ≤ (-x).tdiv y := by
        rw [Int.tdiv_eq_ediv_of_nonneg (by omega), Int.tdiv_eq_ediv_of_nonneg (by omega)]
        exact Int.ediv_le_ediv hy (by omega)
      rw [Int.neg_tdiv, Int.neg_tdiv] at e1
      omega
theorem tdiv_anti {x p y : Int} (hx : 0 ≤ x) (hp : 0 < p) (h : p ≤ y) : x.tdiv y ≤ x.tdiv p := by
  obtain ⟨n, rfl⟩ := Int.eq_ofNat_of_zero_le hx
  obtain ⟨k, rfl⟩ := Int.eq_ofNat_of_zero_le (show 0 ≤ p by omega)
  obtain ⟨m, rfl⟩ := Int.eq_ofNat_of_zero_le (show 0 ≤ y by omega)
  have : n / m ≤ n / k := Nat.div_le_div_left (by omega) (by omega)
  show ((n / m : Nat) : Int) ≤ ((n / k : Nat) : Int)
  omega

/-- A quotient lies between those at the bounds, for a divisor of one sign. -/
theorem div_low {a0 a1 p q x y : Int} (h1 : a0 ≤ x) (h2 : x ≤ a1) (h3 : p ≤ y) (h4 : y ≤ q) (hs : 0 < p ∨ q < 0) : ∃ u v, (u = a0 ∨ u = a1) ∧ (v = p ∨ v = q) ∧ u.tdiv v ≤ x.tdiv y := by
  rcases hs with hp | hq
  · have e1 : a0.tdiv y ≤ x.tdiv y := tdiv_mono h1 (by omega)
    by_cases h : 0 ≤ a0
    · exact ⟨a0, q, Or.inl rfl, Or.inr rfl, Int.le_trans (tdiv_anti h (by omega) h4) e1⟩
    · refine ⟨a0, p, Or.inl rfl, Or.inl rfl, Int.le_trans ?_ e1⟩
      have := tdiv_anti (x := -a0) (p := p) (y := y) (by omega) hp h3
      rw [Int.neg_tdiv, Int.neg_tdiv] at this
      omega
  · have e1 : a1.tdiv y ≤ x.tdiv y := by
      have := tdiv_mono (y := -y) h2 (by omega)
      rw [Int.tdiv_neg, Int.tdiv_neg] at this
      omega
    by_cases h : 0 ≤ a1
    · refine ⟨a1, q, Or.inr rfl, Or.inr rfl, Int.le_trans ?_ e1⟩
      have := tdiv_anti (x := a1) (p := -q) (y := -y) h (by omega) (by omega)
      rw [Int.tdiv_neg, Int.tdiv_neg] at this
      omega
    · refine ⟨a1, p, Or.inr rfl, Or.inl rfl, Int.le_trans ?_ e1⟩
      have := tdiv_anti (x := -a1) (p := -y) (y := -p) (by omega) (by omega) (by omega)
      rw [Int.tdiv_neg, Int.tdiv_neg, Int.neg_tdiv, Int.neg_tdiv] at this
      omega
theorem div_high {a0 a1 p q x y : Int} (h1 : a0 ≤ x) (h2 : x ≤ a1) (h3 : p ≤ y) (h4 : y ≤ q) (hs : 0 < p ∨ q < 0) : ∃ u v, (u = a0 ∨ u = a1) ∧ (v = p ∨ v = q) ∧ x.tdiv y ≤ u.tdiv v := by
  obtain ⟨u, v, hu, hv, h⟩ := div_low (a0 := -a1) (a1 := -a0) (x := -x) (y := y) (p := p) (q := q) (by omega) (by omega) h3 h4 hs
  rw [Int.neg_tdiv] at h
  refine ⟨-u, v, by omega, hv, ?_⟩
  rw [Int.neg_tdiv]
  omega

/-! ### what fits into 64 bits -/
def I64v (v : Int) : Prop := -9223372036854775808 ≤ v ∧ v ≤ 9223372036854775807
theorem wrap_I64 (n : Int) : I64v (wrap64 n) := by unfold wrap64 I64v; omega
theorem wrap_id {n : Int} (h : I64v n) : wrap64 n = n := by unfold I64v at h; unfold wrap64; omega
theorem wrap_eq (n : Int) : ∃ k, wrap64 n = n - k * 18446744073709551616 := ⟨(n + 9223372036854775808) / 18446744073709551616, by unfold wrap64; omega⟩

theorem tdiv_I64 {a b : Int} (ha : I64v a) (hb : ¬ b = 0) : I64v (a.tdiv b) ∨ (a = -9223372036854775808 ∧ b = -1) := by
  unfold I64v at *
  have hn : (a.tdiv b).natAbs = a.natAbs / b.natAbs := Int.natAbs_tdiv a b
  have hle : a.natAbs / b.natAbs ≤ a.natAbs := Nat.div_le_self _ _
  by_cases h : a = -9223372036854775808
  · by_cases h1 : b = -1
    · exact Or.inr ⟨h, h1⟩
    · left
      by_cases h2 : b = 1
      · subst h2; simp; omega
      · have hb2 : 2 ≤ b.natAbs := by omega
        have : a.natAbs / b.natAbs ≤ a.natAbs / 2 := Nat.div_le_div_left hb2 (by omega)
        omega
  · left
    omega

theorem mul_fits {a b : Int} (_ha : I64v a) (_hb : I64v b) (h : wrap64 ((wrap64 (a * b)).tdiv b) = a) (h' : ¬ (a = -9223372036854775808 ∧ b = -1)) (hb0 : ¬ b = 0) : I64v (a * b) := by
  obtain ⟨k, hk⟩ := wrap_eq (a * b)
  have hw := wrap_I64 (a * b)
  generalize wrap64 (a * b) = v at hk hw h
  have hd : v.tdiv b = a := by
    rcases tdiv_I64 hw hb0 with h1 | ⟨h1, h2⟩
    · rw [wrap_id h1] at h; exact h
    · subst h1 h2
      exfalso
      have : wrap64 ((-9223372036854775808 : Int).tdiv (-1)) = -9223372036854775808 := by unfold wrap64; decide
      omega
  have hm := Int.mul_tdiv_add_tmod v b
  rw [hd] at hm
  have hr : (v.tmod b).natAbs < b.natAbs := by
    rw [Int.natAbs_tmod]
    exact Nat.mod_lt _ (by omega)
  unfold I64v at *
  have hc : b * a = a * b := Int.mul_comm b a
  rw [hc] at hm
  generalize a * b = n at *
  have : k = 0 := by omega
  subst this
  omega

theorem mul_fits' {a b : Int} (ha : I64v a) (h : I64v (a * b)) (hb0 : ¬ b = 0) : wrap64 ((wrap64 (a * b)).tdiv b) = a ∧ ¬ (a = -9223372036854775808 ∧ b = -1) := by
  rw [wrap_id h, Int.mul_tdiv_cancel _ hb0, wrap_id ha]
  refine ⟨rfl, fun hh => ?_⟩
  obtain ⟨rfl, rfl⟩ := hh
  unfold I64v at h
  omega

end Go.Proofs.YtdbfaekdkjclcaaDoor
