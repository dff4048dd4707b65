
/-
  INTERVALS: Widen of package num and of ceilingref01: both answer the same.
-/
import Derived.Test.YtdbfaekdkjclcaaDoorNumJ
namespace Go.Proofs.YtdbfaekdkjclcaaDoor
open Go Go.RowKit

def wlo (a c p : Int) : Int := if a ≤ c then a else if p ≤ c then p else -9223372036854775808
def whi (b d q : Int) : Int := if d ≤ b then b else if d ≤ q then q else 9223372036854775807
def widenV (a b c d p q : Int) : Value := if b < a ∨ d < c then joinV a b c d else iv (wlo a c p) (whi b d q)

theorem join_iv (a b c d : Int) : ∃ p q, joinV a b c d = .agg #[.int .i64 p, .int .i64 q] := by
  unfold joinV
  split
  · split <;> exact ⟨_, _, rfl⟩
  · split <;> exact ⟨_, _, rfl⟩

set_option maxHeartbeats 1000000 in
theorem widen_any_empty (a b c d p q : Int) (w : World) (L : Laid w) (he : b < a ∨ d < c) : Calls Tryd.prog 12 #[.agg #[.int .i64 a, .int .i64 b], .agg #[.int .i64 c, .int .i64 d], .agg #[.int .i64 p, .int .i64 q]] w (Gives w (widenV a b c d p q)) := by
  rw [widenV, if_pos he]
  obtain ⟨x, y, hxy⟩ := join_iv a b c d
  rw [hxy]
  have HJ := Lib.hid hxy; clear hxy
  by_cases h1 : b < a
  · have e1 : decide (b < a) = true := by simpa using h1
    clear he h1
    go_enter Tryd.func12, Tryd.ntmps12
    go_wp2_with fail
    refine (empty_box _ _ _).mono ?_; rintro e w' ⟨rfl, rfl⟩; rw [e1]
    go_wp2_with fail
    refine (join_any _ _ _ _ _ (L.after (by (repeat' (first | (with_reducible exact Below.refl _ _) | (with_reducible assumption) | (with_reducible refine boxed ?_ _) | (with_reducible refine Below.drew ?_) | (with_reducible refine after ?_ (by assumption))))))).mono ?_
    rw [HJ.out]
    rintro e w1 ⟨rfl, hb⟩
    have c0 := keepC hb (b := w.heap.size + 1 + 1 + 1) (o := 0) (v := .int .i64 0) (by go_cell)
    have c1 := keepC hb (b := w.heap.size + 1 + 1 + 1) (o := 1) (v := .int .i64 0) (by go_cell)
    have f0 := keepF hb (b := w.heap.size + 1 + 1 + 1) (o := 0) (v := .int .i64 0) (by go_cell) (by go_cell)
    have f1 := keepF hb (b := w.heap.size + 1 + 1 + 1) (o := 1) (v := .int .i64 0) (by go_cell) (by go_cell)
    have hz : w.heap.size + 1 + 1 + 1 < w1.heap.size := by have := hb.size; simp at this; omega
    go_wp2_with fail
    refine bodyPost_ret (v := .agg #[.int .i64 x, .int .i64 y]) (by simp [results, Tryd.results12, go_sem, *]) rfl ⟨rfl, ?_⟩
    refine Below.setCell (Below.setCell (after ?_ hb) ?_ _) ?_ _
    · (repeat' (first | (with_reducible exact Below.refl _ _) | (with_reducible assumption) | (with_reducible refine boxed ?_ _) | (with_reducible refine Below.drew ?_) | (with_reducible refine after ?_ (by assumption))))
    · simp; omega
    · simp; omega
  · have e1 : decide (b < a) = false := by simp; omega
    have e2 : decide (d < c) = true := by simp; omega
    clear he h1
    go_enter Tryd.func12, Tryd.ntmps12
    go_wp2_with fail
    refine (empty_box _ _ _).mono ?_; rintro e w' ⟨rfl, rfl⟩; rw [e1]
    go_wp2_with fail
    refine (empty_box _ _ _).mono ?_; rintro e w' ⟨rfl, rfl⟩; rw [e2]
    go_wp2_with fail
    refine (join_any _ _ _ _ _ (L.after (by (repeat' (first | (with_reducible exact Below.refl _ _) | (with_reducible assumption) | (with_reducible refine boxed ?_ _) | (with_reducible refine Below.drew ?_) | (with_reducible refine after ?_ (by assumption))))))).mono ?_
    rw [HJ.out]
    rintro e w1 ⟨rfl, hb⟩
    have c0 := keepC hb (b := w.heap.size + 1 + 1 + 1) (o := 0) (v := .int .i64 0) (by go_cell)
    have c1 := keepC hb (b := w.heap.size + 1 + 1 + 1) (o := 1) (v := .int .i64 0) (by go_cell)
    have f0 := keepF hb (b := w.heap.size + 1 + 1 + 1) (o := 0) (v := .int .i64 0) (by go_cell) (by go_cell)
    have f1 := keepF hb (b := w.heap.size + 1 + 1 + 1) (o := 1) (v := .int .i64 0) (by go_cell) (by go_cell)
    have hz : w.heap.size + 1 + 1 + 1 < w1.heap.size := by have := hb.size; simp at this; omega
    go_wp2_with fail
    refine bodyPost_ret (v := .agg #[.int .i64 x, .int .i64 y]) (by simp [results, Tryd.results12, go_sem, *]) rfl ⟨rfl, ?_⟩
    refine Below.setCell (Below.setCell (after ?_ hb) ?_ _) ?_ _
    · (repeat' (first | (with_reducible exact Below.refl _ _) | (with_reducible assumption) | (with_reducible refine boxed ?_ _) | (with_reducible refine Below.drew ?_) | (with_reducible refine after ?_ (by assumption))))
    · simp; omega
    · simp; omega

set_option maxHeartbeats 2000000 in
theorem widen_any_full (a b c d p q : Int) (w : World) (L : Laid w) (h1 : ¬ b < a) (h2 : ¬ d < c) : Calls Tryd.prog 12 #[.agg #[.int .i64 a, .int .i64 b], .agg #[.int .i64 c, .int .i64 d], .agg #[.int .i64 p, .int .i64 q]] w (Gives w (widenV a b c d p q)) := by
  have EV : widenV a b c d p q = iv (wlo a c p) (whi b d q) := by rw [widenV, if_neg (by omega)]
  have e1 : decide (b < a) = false := by simp; omega
  have e2 : decide (d < c) = false := by simp; omega
  have hf0 := L.f0
  have hf1 := L.f1
  have hs := L.size
  have hs1 : 2 < w.heap.size := by omega
  have hs11 : 2 < w.heap.size + 1 := by omega
  have hs12 : 2 < w.heap.size + 1 + 1 := by omega
  have hs13 : 2 < w.heap.size + 1 + 1 + 1 := by omega
  have hs14 : 2 < w.heap.size + 1 + 1 + 1 + 1 := by omega
  have hs15 : 2 < w.heap.size + 1 + 1 + 1 + 1 + 1 := by omega
  have hs16 : 2 < w.heap.size + 1 + 1 + 1 + 1 + 1 + 1 := by omega
  clear L
  have lo : Hid (a ≤ c ∧ wlo a c p = a ∨ ¬ a ≤ c ∧ p ≤ c ∧ wlo a c p = p ∨ ¬ a ≤ c ∧ ¬ p ≤ c ∧ wlo a c p = -9223372036854775808) := by
    show _ ∨ _
    unfold wlo
    by_cases x1 : a ≤ c
    · exact Or.inl ⟨x1, if_pos x1⟩
    · by_cases x2 : p ≤ c
      · exact Or.inr (Or.inl ⟨x1, x2, by rw [if_neg x1, if_pos x2]⟩)
      · exact Or.inr (Or.inr ⟨x1, x2, by rw [if_neg x1, if_neg x2]⟩)
  have hi : Hid (d ≤ b ∧ whi b d q = b ∨ ¬ d ≤ b ∧ d ≤ q ∧ whi b d q = q ∨ ¬ d ≤ b ∧ ¬ d ≤ q ∧ whi b d q = 9223372036854775807) := by
    show _ ∨ _
    unfold whi
    by_cases x1 : d ≤ b
    · exact Or.inl ⟨x1, if_pos x1⟩
    · by_cases x2 : d ≤ q
      · exact Or.inr (Or.inl ⟨x1, x2, by rw [if_neg x1, if_pos x2]⟩)
      · exact Or.inr (Or.inr ⟨x1, x2, by rw [if_neg x1, if_neg x2]⟩)
  rcases lo.out with ⟨l1, le⟩ | ⟨l1, l2, le⟩ | ⟨l1, l2, le⟩
  all_goals rw [le] at EV
  all_goals clear le lo
  all_goals rcases hi.out with ⟨r1, re⟩ | ⟨r1, r2, re⟩ | ⟨r1, r2, re⟩
  all_goals rw [re] at EV
  all_goals clear re hi
  all_goals
    rw [EV]
    clear EV
    go_enter Tryd.func12, Tryd.ntmps12
    go_wp2_with (first | (go_at_call 18; refine (empty_box _ _ _).mono ?_; rintro e w' ⟨rfl, rfl⟩; first | rw [e1] | rw [e2]) | fail)
    go_returns
    exact ⟨rfl, by go_grown⟩

theorem widen_any (a b c d p q : Int) (w : World) (L : Laid w) : Calls Tryd.prog 12 #[.agg #[.int .i64 a, .int .i64 b], .agg #[.int .i64 c, .int .i64 d], .agg #[.int .i64 p, .int .i64 q]] w (Gives w (widenV a b c d p q)) := by
  by_cases he : b < a ∨ d < c
  · exact widen_any_empty a b c d p q w L he
  · exact widen_any_full a b c d p q w L (by omega) (by omega)

end Go.Proofs.YtdbfaekdkjclcaaDoor
