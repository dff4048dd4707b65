
/-
  INTERVALS: Lies, Join, Meet, Widen: of package num and of ceilingref01: both answer the same.
-/
import Derived.Test.YtdbfaekdkjclcaaDoorNumI
import Derived.Deep.RegionHeld3
namespace Go.Proofs.YtdbfaekdkjclcaaDoor
open Go Go.RowKit

theorem keepC {W w1 : World} (hb : Below W.heap.size W w1) {b o : Nat} {v : Value} (h : W.cell? ⟨b, o, none⟩ = some v) : w1.cell? ⟨b, o, none⟩ = some v := by
  rw [hb.cell (block_lt_of_cell h)]; exact h
theorem keepF {W w1 : World} (hb : Below W.heap.size W w1) {b o : Nat} {v : Value} (h : W.cell? ⟨b, o, none⟩ = some v) (hf : W.frozen? ⟨b, o, none⟩ = false) : w1.frozen? ⟨b, o, none⟩ = false := by
  rw [hb.frozen (block_lt_of_cell h)]; exact hf

theorem empty_box (lo hi : Int) (w : World) : Calls Tryd.prog 18 #[.agg #[.int .i64 lo, .int .i64 hi]] w fun e w' => e = .returned (.bool (decide (hi < lo))) ∧ w.alloc (.cells #[.int .i64 lo, .int .i64 hi] 24) = w' := by
  go_enter Tryd.func18, Tryd.ntmps18
  go_wp2
  go_returns
  exact ⟨rfl, rfl⟩
theorem rempty_box (lo hi : Int) (w : World) : Calls Tryd.prog 26 #[.agg #[.int .i64 lo, .int .i64 hi]] w fun e w' => e = .returned (.bool (decide (hi < lo))) ∧ w.alloc (.cells #[.int .i64 lo, .int .i64 hi] 24) = w' := by
  go_enter Tryd.func26, Tryd.ntmps26
  go_wp2
  go_returns
  exact ⟨rfl, rfl⟩

/-! ### Lies -/
def liesB (a b c d : Int) : Bool := decide (b < a ∨ c ≤ a ∧ b ≤ d)

theorem lies_any (a b c d : Int) (w : World) : Calls Tryd.prog 13 #[.agg #[.int .i64 a, .int .i64 b], .agg #[.int .i64 c, .int .i64 d]] w (Gives w (.bool (liesB a b c d))) := by
  by_cases h1 : b < a
  · have e1 : decide (b < a) = true := by simpa using h1
    go_enter Tryd.func13, Tryd.ntmps13
    go_wp2_with (go_at_call 18; refine (empty_box _ _ _).mono ?_; rintro e w' ⟨rfl, rfl⟩; rw [e1])
    go_returns
    exact ⟨by rw [liesB, decide_eq_true (Or.inl h1)]; rfl, by (repeat' (first | (with_reducible exact Below.refl _ _) | (with_reducible assumption) | (with_reducible refine boxed ?_ _) | (with_reducible refine Below.drew ?_) | (with_reducible refine after ?_ (by assumption))))⟩
  · have e1 : decide (b < a) = false := by simp; omega
    by_cases h2 : c ≤ a
    all_goals by_cases h3 : b ≤ d
    all_goals
      go_enter Tryd.func13, Tryd.ntmps13
      go_wp2_with (go_at_call 18; refine (empty_box _ _ _).mono ?_; rintro e w' ⟨rfl, rfl⟩; rw [e1])
      go_returns
    all_goals exact ⟨by first | (rw [show liesB a b c d = true from decide_eq_true (by omega)]; rfl) | (rw [show liesB a b c d = false from decide_eq_false (by omega)]; rfl) | (rw [show liesB a b c d = decide (b ≤ d) from decide_eq_decide.2 (by omega)]; rfl), by (repeat' (first | (with_reducible exact Below.refl _ _) | (with_reducible assumption) | (with_reducible refine boxed ?_ _) | (with_reducible refine Below.drew ?_) | (with_reducible refine after ?_ (by assumption))))⟩

/-! ### Join -/
def joinV (a b c d : Int) : Value := if b < a then (if d < c then iv 1 0 else iv c d) else if d < c then iv a b else iv (min a c) (max b d)

set_option maxHeartbeats 1000000 in
theorem join_any (a b c d : Int) (w : World) (L : Laid w) : Calls Tryd.prog 10 #[.agg #[.int .i64 a, .int .i64 b], .agg #[.int .i64 c, .int .i64 d]] w (Gives w (joinV a b c d)) := by
  have hn0 := L.n0
  have hn1 := L.n1
  have hs := L.size
  have hs0 : 0 < w.heap.size := by omega
  by_cases h1 : b < a
  · have e1 : decide (b < a) = true := by simpa using h1
    by_cases h2 : d < c
    · have e2 : decide (d < c) = true := by simpa using h2
      rw [show joinV a b c d = iv 1 0 by simp [joinV, h1, h2]]
      go_enter Tryd.func10, Tryd.ntmps10
      go_wp2_with (go_at_call 18; refine (empty_box _ _ _).mono ?_; rintro e w' ⟨rfl, rfl⟩; first | rw [e1] | rw [e2])
      go_returns
      exact ⟨rfl, by go_grown⟩
    · have e2 : decide (d < c) = false := by simp; omega
      rw [show joinV a b c d = iv c d by simp [joinV, h1, h2]]
      go_enter Tryd.func10, Tryd.ntmps10
      go_wp2_with (go_at_call 18; refine (empty_box _ _ _).mono ?_; rintro e w' ⟨rfl, rfl⟩; first | rw [e1] | rw [e2])
      go_returns
      exact ⟨rfl, by go_grown⟩
  · have e1 : decide (b < a) = false := by simp; omega
    by_cases h2 : d < c
    · have e2 : decide (d < c) = true := by simpa using h2
      rw [show joinV a b c d = iv a b by simp [joinV, h1, h2]]
      go_enter Tryd.func10, Tryd.ntmps10
      go_wp2_with (go_at_call 18; refine (empty_box _ _ _).mono ?_; rintro e w' ⟨rfl, rfl⟩; first | rw [e1] | rw [e2])
      go_returns
      exact ⟨rfl, by go_grown⟩
    · have e2 : decide (d < c) = false := by simp; omega
      rw [show joinV a b c d = iv (min a c) (max b d) by simp [joinV, h1, h2]]
      clear hn0 hn1 L
      go_enter Tryd.func10, Tryd.ntmps10
      go_wp2_with (go_at_call 18; refine (empty_box _ _ _).mono ?_; rintro e w' ⟨rfl, rfl⟩; first | rw [e1] | rw [e2])
      go_region_held3 (fun w' => w'.cell? ⟨w.heap.size, 0, none⟩ = some (.int .i64 a) ∧ w'.cell? ⟨w.heap.size, 1, none⟩ = some (.int .i64 b) ∧ w'.cell? ⟨w.heap.size + 1, 0, none⟩ = some (.int .i64 c) ∧ w'.cell? ⟨w.heap.size + 1, 1, none⟩ = some (.int .i64 d)) (refine ⟨?_, ?_, ?_, ?_⟩ <;> go_cell)
        (first | (go_at_call 42; refine (least_two _ c _ _ ?_).mono ?_; (focus go_cell); rintro e w1 ⟨rfl, rfl⟩) | (go_at_call 43; refine (greatest_two _ d _ _ ?_).mono ?_; (focus go_cell); rintro e w1 ⟨rfl, rfl⟩))
      all_goals go_wp2
      all_goals go_returns
      all_goals exact ⟨rfl, by go_grown⟩

theorem rcanon_any (a b : Int) (w : World) : Calls Tryd.prog 77 #[.agg #[.int .i64 a, .int .i64 b]] w (Gives w (if b < a then iv 1 0 else iv a b)) := by
  by_cases h1 : b < a
  · have e1 : decide (b < a) = true := by simpa using h1
    rw [if_pos h1]
    go_enter Tryd.func77, Tryd.ntmps77
    go_wp2_with (first | (go_at_call 26; refine (rempty_box _ _ _).mono ?_; rintro e w' ⟨rfl, rfl⟩; rw [e1]) | go_in)
    go_returns
    exact ⟨rfl, by go_grown⟩
  · have e1 : decide (b < a) = false := by simp; omega
    rw [if_neg h1]
    go_enter Tryd.func77, Tryd.ntmps77
    go_wp2_with (first | (go_at_call 26; refine (rempty_box _ _ _).mono ?_; rintro e w' ⟨rfl, rfl⟩; rw [e1]) | go_in)
    go_returns
    exact ⟨rfl, by go_grown⟩


theorem rjoin_any (a b c d : Int) (w : World) : Calls Tryd.prog 53 #[.agg #[.int .i64 a, .int .i64 b], .agg #[.int .i64 c, .int .i64 d]] w (Gives w (joinV a b c d)) := by
  by_cases h1 : b < a
  · have e1 : decide (b < a) = true := by simpa using h1
    have ej : joinV a b c d = if d < c then iv 1 0 else iv c d := by simp [joinV, h1]
    rw [ej]
    generalize hv : (if d < c then iv 1 0 else iv c d) = v
    have hv' : ∃ p q, v = .agg #[.int .i64 p, .int .i64 q] := by subst hv; split <;> exact ⟨_, _, rfl⟩
    obtain ⟨p, q, rfl⟩ := hv'
    have HV := Lib.hid hv; clear hv ej
    go_enter Tryd.func53, Tryd.ntmps53
    go_wp2_with fail
    refine (rempty_box _ _ _).mono ?_; rintro e w' ⟨rfl, rfl⟩; rw [e1]
    go_wp2_with fail
    refine (rcanon_any _ _ _).mono ?_
    rw [HV.out]
    rintro e w1 ⟨rfl, hb⟩
    have c0 := keepC hb (b := w.heap.size + 1 + 1) (o := 0) (v := .int .i64 0) (by go_cell)
    have c1 := keepC hb (b := w.heap.size + 1 + 1) (o := 1) (v := .int .i64 0) (by go_cell)
    have f0 := keepF hb (b := w.heap.size + 1 + 1) (o := 0) (v := .int .i64 0) (by go_cell) (by go_cell)
    have f1 := keepF hb (b := w.heap.size + 1 + 1) (o := 1) (v := .int .i64 0) (by go_cell) (by go_cell)
    have hz : w.heap.size + 1 + 1 < w1.heap.size := by have := hb.size; simp at this; omega
    go_wp2_with fail
    refine bodyPost_ret (v := .agg #[.int .i64 p, .int .i64 q]) (by simp [results, Tryd.results53, go_sem, *]) rfl ⟨rfl, ?_⟩
    refine Below.setCell (Below.setCell (after ?_ hb) ?_ _) ?_ _
    · (repeat' (first | (with_reducible exact Below.refl _ _) | (with_reducible assumption) | (with_reducible refine boxed ?_ _) | (with_reducible refine Below.drew ?_) | (with_reducible refine after ?_ (by assumption))))
    · simp; omega
    · simp; omega
  · have e1 : decide (b < a) = false := by simp; omega
    by_cases h2 : d < c
    · have e2 : decide (d < c) = true := by simpa using h2
      rw [show joinV a b c d = iv a b by simp [joinV, h1, h2]]
      go_enter Tryd.func53, Tryd.ntmps53
      go_wp2_with (go_at_call 26; refine (rempty_box _ _ _).mono ?_; rintro e w' ⟨rfl, rfl⟩; first | rw [e1] | rw [e2])
      go_returns
      exact ⟨rfl, by go_grown⟩
    · have e2 : decide (d < c) = false := by simp; omega
      have ej : joinV a b c d = iv (min a c) (max b d) := by simp [joinV, h1, h2]
      by_cases h3 : a ≤ c
      all_goals by_cases h4 : d ≤ b
      all_goals
        first | rw [Int.min_eq_left h3] at ej | rw [Int.min_eq_right (by omega)] at ej
        first | rw [Int.max_eq_left h4] at ej | rw [Int.max_eq_right (by omega)] at ej
        rw [ej]
        clear ej
        go_enter Tryd.func53, Tryd.ntmps53
        go_wp2_with (go_at_call 26; refine (rempty_box _ _ _).mono ?_; rintro e w' ⟨rfl, rfl⟩; first | rw [e1] | rw [e2])
        go_returns
        exact ⟨rfl, by go_grown⟩

end Go.Proofs.YtdbfaekdkjclcaaDoor
