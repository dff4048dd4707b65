
/-
  INTERVALS: Meet of ceilingref01.
-/
import Derived.Test.YtdbfaekdkjclcaaDoorNumK
namespace Go.Proofs.YtdbfaekdkjclcaaDoor
open Go Go.RowKit

theorem canon_iv (p q : Int) : ∃ x y, (if q < p then iv 1 0 else iv p q) = .agg #[.int .i64 x, .int .i64 y] := by
  split <;> exact ⟨_, _, rfl⟩

theorem rmeet_any (a b c d : Int) (w : World) : Calls Tryd.prog 54 #[.agg #[.int .i64 a, .int .i64 b], .agg #[.int .i64 c, .int .i64 d]] w (Gives w (meetV a b c d)) := by
  by_cases h3 : c ≤ a
  all_goals by_cases h4 : b ≤ d
  · obtain ⟨x, y, hxy⟩ := canon_iv a b
    rw [show meetV a b c d = .agg #[.int .i64 x, .int .i64 y] by rw [meetV, Int.min_eq_left h4, Int.max_eq_left h3, hxy]]
    have HV := Lib.hid hxy; clear hxy
    go_enter Tryd.func54, Tryd.ntmps54
    go_wp2_with fail
    refine (rcanon_any _ _ _).mono ?_
    rw [HV.out]
    rintro e w1 ⟨rfl, hb⟩
    have c0 := keepC hb (b := w.heap.size + 1 + 1) (o := 0) (v := .int .i64 0) (by go_cell)
    have c1 := keepC hb (b := w.heap.size + 1 + 1) (o := 1) (v := .int .i64 0) (by go_cell)
    have f0 := keepF hb (b := w.heap.size + 1 + 1) (o := 0) (v := .int .i64 0) (by go_cell) (by go_cell)
    have f1 := keepF hb (b := w.heap.size + 1 + 1) (o := 1) (v := .int .i64 0) (by go_cell) (by go_cell)
    have hz : w.heap.size + 1 + 1 < w1.heap.size := by have := hb.size; simp at this; omega
    go_wp2_with fail
    refine bodyPost_ret (v := .agg #[.int .i64 x, .int .i64 y]) (by simp [results, Tryd.results54, go_sem, *]) rfl ⟨rfl, ?_⟩
    refine Below.setCell (Below.setCell (after ?_ hb) ?_ _) ?_ _
    · (repeat' (first | (with_reducible exact Below.refl _ _) | (with_reducible assumption) | (with_reducible refine boxed ?_ _) | (with_reducible refine Below.drew ?_) | (with_reducible refine after ?_ (by assumption))))
    · simp; omega
    · simp; omega
  · obtain ⟨x, y, hxy⟩ := canon_iv a d
    rw [show meetV a b c d = .agg #[.int .i64 x, .int .i64 y] by rw [meetV, Int.min_eq_right (by omega), Int.max_eq_left h3, hxy]]
    have HV := Lib.hid hxy; clear hxy
    go_enter Tryd.func54, Tryd.ntmps54
    go_wp2_with fail
    refine (rcanon_any _ _ _).mono ?_
    rw [HV.out]
    rintro e w1 ⟨rfl, hb⟩
    have c0 := keepC hb (b := w.heap.size + 1 + 1) (o := 0) (v := .int .i64 0) (by go_cell)
    have c1 := keepC hb (b := w.heap.size + 1 + 1) (o := 1) (v := .int .i64 0) (by go_cell)
    have f0 := keepF hb (b := w.heap.size + 1 + 1) (o := 0) (v := .int .i64 0) (by go_cell) (by go_cell)
    have f1 := keepF hb (b := w.heap.size + 1 + 1) (o := 1) (v := .int .i64 0) (by go_cell) (by go_cell)
    have hz : w.heap.size + 1 + 1 < w1.heap.size := by have := hb.size; simp at this; omega
    go_wp2_with fail
    refine bodyPost_ret (v := .agg #[.int .i64 x, .int .i64 y]) (by simp [results, Tryd.results54, go_sem, *]) rfl ⟨rfl, ?_⟩
    refine Below.setCell (Below.setCell (after ?_ hb) ?_ _) ?_ _
    · (repeat' (first | (with_reducible exact Below.refl _ _) | (with_reducible assumption) | (with_reducible refine boxed ?_ _) | (with_reducible refine Below.drew ?_) | (with_reducible refine after ?_ (by assumption))))
    · simp; omega
    · simp; omega
  · obtain ⟨x, y, hxy⟩ := canon_iv c b
    rw [show meetV a b c d = .agg #[.int .i64 x, .int .i64 y] by rw [meetV, Int.min_eq_left h4, Int.max_eq_right (by omega), hxy]]
    have HV := Lib.hid hxy; clear hxy
    go_enter Tryd.func54, Tryd.ntmps54
    go_wp2_with fail
    refine (rcanon_any _ _ _).mono ?_
    rw [HV.out]
    rintro e w1 ⟨rfl, hb⟩
    have c0 := keepC hb (b := w.heap.size + 1 + 1) (o := 0) (v := .int .i64 0) (by go_cell)
    have c1 := keepC hb (b := w.heap.size + 1 + 1) (o := 1) (v := .int .i64 0) (by go_cell)
    have f0 := keepF hb (b := w.heap.size + 1 + 1) (o := 0) (v := .int .i64 0) (by go_cell) (by go_cell)
    have f1 := keepF hb (b := w.heap.size + 1 + 1) (o := 1) (v := .int .i64 0) (by go_cell) (by go_cell)
    have hz : w.heap.size + 1 + 1 < w1.heap.size := by have := hb.size; simp at this; omega
    go_wp2_with fail
    refine bodyPost_ret (v := .agg #[.int .i64 x, .int .i64 y]) (by simp [results, Tryd.results54, go_sem, *]) rfl ⟨rfl, ?_⟩
    refine Below.setCell (Below.setCell (after ?_ hb) ?_ _) ?_ _
    · (repeat' (first | (with_reducible exact Below.refl _ _) | (with_reducible assumption) | (with_reducible refine boxed ?_ _) | (with_reducible refine Below.drew ?_) | (with_reducible refine after ?_ (by assumption))))
    · simp; omega
    · simp; omega
  · obtain ⟨x, y, hxy⟩ := canon_iv c d
    rw [show meetV a b c d = .agg #[.int .i64 x, .int .i64 y] by rw [meetV, Int.min_eq_right (by omega), Int.max_eq_right (by omega), hxy]]
    have HV := Lib.hid hxy; clear hxy
    go_enter Tryd.func54, Tryd.ntmps54
    go_wp2_with fail
    refine (rcanon_any _ _ _).mono ?_
    rw [HV.out]
    rintro e w1 ⟨rfl, hb⟩
    have c0 := keepC hb (b := w.heap.size + 1 + 1) (o := 0) (v := .int .i64 0) (by go_cell)
    have c1 := keepC hb (b := w.heap.size + 1 + 1) (o := 1) (v := .int .i64 0) (by go_cell)
    have f0 := keepF hb (b := w.heap.size + 1 + 1) (o := 0) (v := .int .i64 0) (by go_cell) (by go_cell)
    have f1 := keepF hb (b := w.heap.size + 1 + 1) (o := 1) (v := .int .i64 0) (by go_cell) (by go_cell)
    have hz : w.heap.size + 1 + 1 < w1.heap.size := by have := hb.size; simp at this; omega
    go_wp2_with fail
    refine bodyPost_ret (v := .agg #[.int .i64 x, .int .i64 y]) (by simp [results, Tryd.results54, go_sem, *]) rfl ⟨rfl, ?_⟩
    refine Below.setCell (Below.setCell (after ?_ hb) ?_ _) ?_ _
    · (repeat' (first | (with_reducible exact Below.refl _ _) | (with_reducible assumption) | (with_reducible refine boxed ?_ _) | (with_reducible refine Below.drew ?_) | (with_reducible refine after ?_ (by assumption))))
    · simp; omega
    · simp; omega

end Go.Proofs.YtdbfaekdkjclcaaDoor
