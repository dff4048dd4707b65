
/-
  'divisors' of package num: the bounds of the negative and of the positive integers of an interval.
-/
import Derived.Test.YtdbfaekdkjclcaaDoorNumHl
import Derived.Test.YtdbfaekdkjclcaaDoorNumK
import Derived.Deep.AppendLies
namespace Go.Proofs.YtdbfaekdkjclcaaDoor
open Go Go.RowKit

structure DivBox (w : World) (c d : Int) (W : World) : Prop where
  b0 : W.cell? ⟨w.heap.size, 0, none⟩ = some (.int .i64 c)
  b1 : W.cell? ⟨w.heap.size, 1, none⟩ = some (.int .i64 d)
  s0 : W.cell? ⟨w.heap.size + 1, 0, none⟩ = some (.int .i64 (-9223372036854775808))
  s1 : W.cell? ⟨w.heap.size + 1, 1, none⟩ = some (.int .i64 (-1))
  s2 : W.cell? ⟨w.heap.size + 1, 2, none⟩ = some (.int .i64 1)
  s3 : W.cell? ⟨w.heap.size + 1, 3, none⟩ = some (.int .i64 9223372036854775807)
theorem DivBox.below {w : World} {c d : Int} {W w1 : World} (h : DivBox w c d W) (hb : Below W.heap.size W w1) : DivBox w c d w1 :=
  ⟨keepC hb h.b0, keepC hb h.b1, keepC hb h.s0, keepC hb h.s1, keepC hb h.s2, keepC hb h.s3⟩

theorem box_size {w : World} {c d : Int} {W : World} (h : DivBox w c d W) : (w.heap.size < W.heap.size ∧ w.heap.size < W.heap.size + 1 ∧ w.heap.size < W.heap.size + 1 + 1 ∧ w.heap.size < W.heap.size + 1 + 1 + 1) ∧ (w.heap.size + 1 < W.heap.size ∧ w.heap.size + 1 < W.heap.size + 1 ∧ w.heap.size + 1 < W.heap.size + 1 + 1 ∧ w.heap.size + 1 < W.heap.size + 1 + 1 + 1) := by
  have := block_lt_of_cell h.s0
  simp at this
  omega

set_option maxHeartbeats 2000000 in
theorem divisors_np (c d p1 q1 p2 q2 : Int) (w : World) (L : Laid w) (h1 : meetV c d (-9223372036854775808) (-1) = .agg #[.int .i64 p1, .int .i64 q1]) (h2 : meetV c d 1 9223372036854775807 = .agg #[.int .i64 p2, .int .i64 q2]) (e1 : ¬ q1 < p1) (e2 : ¬ q2 < p2) :
    Calls Tryd.prog 50 #[.agg #[.int .i64 c, .int .i64 d]] w fun e w' => ∃ b cap, e = .returned (.slice (some ⟨b, 0, none⟩) 4 cap) ∧ Ints w' b 4 [p1, q1, p2, q2] ∧ Below w.heap.size w w' := by
  obtain ⟨i0, hi, hz0, hz1, hz2⟩ := info_parts info64
  have H1 := Lib.hid h1
  have H2 := Lib.hid h2
  have HL := Lib.hid L
  have d1 : decide (q1 < p1) = false := by simpa using e1
  have d2 : decide (q2 < p2) = false := by simpa using e2
  clear h1 h2 L e1 e2
  go_enter Tryd.func50, Tryd.ntmps50
  go_wp2
  refine wp_loop_rounds 3 ?_
  rw [rounds_succ]
  go_wp2_with fail
  refine (meet_any _ _ _ _ _ (HL.out.after (by go_grown))).mono ?_
  rw [H1.out]
  rintro e w1 ⟨rfl, hb1⟩
  have D1 : Hid (DivBox w c d w1) := DivBox.below ⟨by go_cell, by go_cell, by go_cell, by go_cell, by go_cell, by go_cell⟩ hb1
  have B1 : Hid (Below w.heap.size w w1) := after (by go_grown) hb1
  obtain ⟨x0, x1, x2, x3, x4, x5⟩ := D1.out
  obtain ⟨⟨z0, z0a, z0b, z0c⟩, z1, z1a, z1b, z1c⟩ := box_size D1.out
  clear hb1
  go_wp2_with (first | (go_at_call 18; refine (empty_box _ _ _).mono ?_; rintro e w' ⟨rfl, rfl⟩; rw [d1]) | (at_builtin; refine wpList_append_own _ rfl _ _ 45 rfl w.heap.size 2 i0 (.int .i64 0) 1 8 Tryd.underlying45 hi hz0 hz1 hz2 rfl (by decide) _ _ _ rfl (World.ownsRow_nil _ _ _ _) ⟨w1.heap.size + 1 + 1, 0, none⟩ 2 2 [.int .i64 p1, .int .i64 q1] rfl rfl ?k1 ?k2 ?k3 ?k4 ?k5 ?_))
  case k1 =>
    intro j u hj
    match j, hj with
    | 0, hj => simp at hj; subst hj; exact World.cell?_alloc_at _ _ _ _ (by simp)
    | 1, hj => simp at hj; subst hj; exact World.cell?_alloc_at _ _ _ _ (by simp)
  case k2 => intro u hu; simp at hu; rcases hu with rfl | rfl <;> rfl
  case k3 => unfold maxLen; omega
  case k4 => omega
  case k5 => simp; omega
  intro v1 w2 hown1 hgrow1 _
  obtain ⟨g1, cap1, rfl⟩ := row_some (n := 1) hown1
  have D2 : Hid (DivBox w c d w2) := ⟨hgrow1.cell (by go_cell) (by simp [Value.ownBlock]), hgrow1.cell (by go_cell) (by simp [Value.ownBlock]), hgrow1.cell (by go_cell) (by simp [Value.ownBlock]), hgrow1.cell (by go_cell) (by simp [Value.ownBlock]), hgrow1.cell (by go_cell) (by simp [Value.ownBlock]), hgrow1.cell (by go_cell) (by simp [Value.ownBlock])⟩
  have B2 : Hid (Below w.heap.size w w2) := Below.grown (boxed (boxed (boxed B1.out _) _) _) hgrow1 (by have := B1.out.size; simp only [World.size_alloc]; omega) (fun k hk => by cases hk)
  clear x0 x1 x2 x3 x4 x5 z0 z0a z0b z0c z1 z1a z1b z1c hgrow1
  obtain ⟨x0, x1, x2, x3, x4, x5⟩ := D2.out
  obtain ⟨⟨z0, z0a, z0b, z0c⟩, z1, z1a, z1b, z1c⟩ := box_size D2.out
  have O1 := Lib.hid hown1
  clear hown1
  go_wp2_with fail
  rw [rounds_succ]
  go_wp2_with fail
  refine (meet_any _ _ _ _ _ (HL.out.after (by (repeat' (first | (with_reducible exact Below.refl _ _) | (with_reducible exact B2.out) | (with_reducible refine boxed ?_ _) | (with_reducible refine Below.drew ?_)))))).mono ?_
  rw [H2.out]
  rintro e w3 ⟨rfl, hb3⟩
  have D3 : Hid (DivBox w c d w3) := DivBox.below ⟨by go_cell, by go_cell, by go_cell, by go_cell, by go_cell, by go_cell⟩ hb3
  have B3 : Hid (Below w.heap.size w w3) := after (by (repeat' (first | (with_reducible exact Below.refl _ _) | (with_reducible exact B2.out) | (with_reducible refine boxed ?_ _) | (with_reducible refine Below.drew ?_)))) hb3
  have O3 := Lib.hid (ownsRow_below (O1.out.alloc _) hb3)
  clear x0 x1 x2 x3 x4 x5 z0 z0a z0b z0c z1 z1a z1b z1c hb3
  obtain ⟨x0, x1, x2, x3, x4, x5⟩ := D3.out
  obtain ⟨⟨z0, z0a, z0b, z0c⟩, z1, z1a, z1b, z1c⟩ := box_size D3.out
  go_wp2_with (first | (go_at_call 18; refine (empty_box _ _ _).mono ?_; rintro e w' ⟨rfl, rfl⟩; rw [d2]) | (at_builtin; refine wpList_append_own _ rfl _ _ 45 rfl w.heap.size 2 i0 (.int .i64 0) 1 8 Tryd.underlying45 hi hz0 hz1 hz2 rfl (by decide) _ _ _ rfl (((O3.out.alloc _).alloc _).alloc _) ⟨w3.heap.size + 1 + 1, 0, none⟩ 2 2 [.int .i64 p2, .int .i64 q2] rfl rfl ?m1 ?m2 ?m3 ?m4 ?m5 ?_))
  case m1 =>
    intro j u hj
    match j, hj with
    | 0, hj => simp at hj; subst hj; exact World.cell?_alloc_at _ _ _ _ (by simp)
    | 1, hj => simp at hj; subst hj; exact World.cell?_alloc_at _ _ _ _ (by simp)
  case m2 => intro u hu; simp at hu; rcases hu with rfl | rfl <;> rfl
  case m3 => unfold maxLen; omega
  case m4 => omega
  case m5 => simp; omega
  intro v4 w4 hown4 hgrow4 _
  obtain ⟨g4, cap4, rfl⟩ := row_some (n := 3) hown4
  have B4 : Hid (Below w.heap.size w w4) := Below.grown (boxed (boxed (boxed B3.out _) _) _) hgrow4 (by have := B3.out.size; simp only [World.size_alloc]; omega) (fun k hk => by have := (O3.out.lt k hk).1; omega)
  have O4 := Lib.hid hown4
  clear hown4 hgrow4
  go_wp2_with fail
  rw [rounds_succ]
  go_wp2_with fail
  go_returns
  refine ⟨_, _, rfl, ⟨rfl, fun i hi => ?_⟩, by (repeat' (first | (with_reducible exact Below.refl _ _) | (with_reducible exact B4.out) | (with_reducible refine boxed ?_ _) | (with_reducible refine Below.drew ?_)))⟩
  have hc := O4.out.cellAt i (by omega)
  try simp only [List.nil_append] at hc
  rcases (show i = 0 ∨ i = 1 ∨ i = 2 ∨ i = 3 by omega) with rfl | rfl | rfl | rfl
  all_goals first | exact hc | (rw [World.cell?_alloc_lt (block_lt_of_cell hc)]; exact hc) | (go_simp; exact hc)

set_option maxHeartbeats 2000000 in
theorem divisors_n (c d p1 q1 p2 q2 : Int) (w : World) (L : Laid w) (h1 : meetV c d (-9223372036854775808) (-1) = .agg #[.int .i64 p1, .int .i64 q1]) (h2 : meetV c d 1 9223372036854775807 = .agg #[.int .i64 p2, .int .i64 q2]) (e1 : ¬ q1 < p1) (e2 : q2 < p2) :
    Calls Tryd.prog 50 #[.agg #[.int .i64 c, .int .i64 d]] w fun e w' => ∃ b cap, e = .returned (.slice (some ⟨b, 0, none⟩) 2 cap) ∧ Ints w' b 2 [p1, q1] ∧ Below w.heap.size w w' := by
  obtain ⟨i0, hi, hz0, hz1, hz2⟩ := info_parts info64
  have H1 := Lib.hid h1
  have H2 := Lib.hid h2
  have HL := Lib.hid L
  have d1 : decide (q1 < p1) = false := by simpa using e1
  have d2 : decide (q2 < p2) = true := by simpa using e2
  clear h1 h2 L e1 e2
  go_enter Tryd.func50, Tryd.ntmps50
  go_wp2
  refine wp_loop_rounds 3 ?_
  rw [rounds_succ]
  go_wp2_with fail
  refine (meet_any _ _ _ _ _ (HL.out.after (by go_grown))).mono ?_
  rw [H1.out]
  rintro e w1 ⟨rfl, hb1⟩
  have D1 : Hid (DivBox w c d w1) := DivBox.below ⟨by go_cell, by go_cell, by go_cell, by go_cell, by go_cell, by go_cell⟩ hb1
  have B1 : Hid (Below w.heap.size w w1) := after (by go_grown) hb1
  obtain ⟨x0, x1, x2, x3, x4, x5⟩ := D1.out
  obtain ⟨⟨z0, z0a, z0b, z0c⟩, z1, z1a, z1b, z1c⟩ := box_size D1.out
  clear hb1
  go_wp2_with (first | (go_at_call 18; refine (empty_box _ _ _).mono ?_; rintro e w' ⟨rfl, rfl⟩; rw [d1]) | (at_builtin; refine wpList_append_own _ rfl _ _ 45 rfl w.heap.size 2 i0 (.int .i64 0) 1 8 Tryd.underlying45 hi hz0 hz1 hz2 rfl (by decide) _ _ _ rfl (World.ownsRow_nil _ _ _ _) ⟨w1.heap.size + 1 + 1, 0, none⟩ 2 2 [.int .i64 p1, .int .i64 q1] rfl rfl ?k1 ?k2 ?k3 ?k4 ?k5 ?_))
  case k1 =>
    intro j u hj
    match j, hj with
    | 0, hj => simp at hj; subst hj; exact World.cell?_alloc_at _ _ _ _ (by simp)
    | 1, hj => simp at hj; subst hj; exact World.cell?_alloc_at _ _ _ _ (by simp)
  case k2 => intro u hu; simp at hu; rcases hu with rfl | rfl <;> rfl
  case k3 => unfold maxLen; omega
  case k4 => omega
  case k5 => simp; omega
  intro v1 w2 hown1 hgrow1 _
  obtain ⟨g1, cap1, rfl⟩ := row_some (n := 1) hown1
  have D2 : Hid (DivBox w c d w2) := ⟨hgrow1.cell (by go_cell) (by simp [Value.ownBlock]), hgrow1.cell (by go_cell) (by simp [Value.ownBlock]), hgrow1.cell (by go_cell) (by simp [Value.ownBlock]), hgrow1.cell (by go_cell) (by simp [Value.ownBlock]), hgrow1.cell (by go_cell) (by simp [Value.ownBlock]), hgrow1.cell (by go_cell) (by simp [Value.ownBlock])⟩
  have B2 : Hid (Below w.heap.size w w2) := Below.grown (boxed (boxed (boxed B1.out _) _) _) hgrow1 (by have := B1.out.size; simp only [World.size_alloc]; omega) (fun k hk => by cases hk)
  clear x0 x1 x2 x3 x4 x5 z0 z0a z0b z0c z1 z1a z1b z1c hgrow1
  obtain ⟨x0, x1, x2, x3, x4, x5⟩ := D2.out
  obtain ⟨⟨z0, z0a, z0b, z0c⟩, z1, z1a, z1b, z1c⟩ := box_size D2.out
  have O1 := Lib.hid hown1
  clear hown1
  go_wp2_with fail
  rw [rounds_succ]
  go_wp2_with fail
  refine (meet_any _ _ _ _ _ (HL.out.after (by (repeat' (first | (with_reducible exact Below.refl _ _) | (with_reducible exact B2.out) | (with_reducible refine boxed ?_ _) | (with_reducible refine Below.drew ?_)))))).mono ?_
  rw [H2.out]
  rintro e w3 ⟨rfl, hb3⟩
  have D3 : Hid (DivBox w c d w3) := DivBox.below ⟨by go_cell, by go_cell, by go_cell, by go_cell, by go_cell, by go_cell⟩ hb3
  have B3 : Hid (Below w.heap.size w w3) := after (by (repeat' (first | (with_reducible exact Below.refl _ _) | (with_reducible exact B2.out) | (with_reducible refine boxed ?_ _) | (with_reducible refine Below.drew ?_)))) hb3
  have O3 := Lib.hid (ownsRow_below (O1.out.alloc _) hb3)
  clear x0 x1 x2 x3 x4 x5 z0 z0a z0b z0c z1 z1a z1b z1c hb3
  obtain ⟨x0, x1, x2, x3, x4, x5⟩ := D3.out
  obtain ⟨⟨z0, z0a, z0b, z0c⟩, z1, z1a, z1b, z1c⟩ := box_size D3.out
  go_wp2_with (go_at_call 18; refine (empty_box _ _ _).mono ?_; rintro e w' ⟨rfl, rfl⟩; rw [d2])
  rw [rounds_succ]
  go_wp2_with fail
  go_returns
  refine ⟨_, _, rfl, ⟨rfl, fun i hi => ?_⟩, by (repeat' (first | (with_reducible exact Below.refl _ _) | (with_reducible exact B3.out) | (with_reducible refine boxed ?_ _) | (with_reducible refine Below.drew ?_)))⟩
  have hc := ((O3.out.alloc (.cells #[.int .i64 p2, .int .i64 q2] 24)).alloc (.cells #[.int .i64 p2, .int .i64 q2] 24)).cellAt i (by omega)
  try simp only [List.nil_append] at hc
  rcases (show i = 0 ∨ i = 1 by omega) with rfl | rfl
  all_goals first | exact hc | (rw [World.cell?_alloc_lt (block_lt_of_cell hc)]; exact hc) | (go_simp; exact hc)

set_option maxHeartbeats 2000000 in
theorem divisors_p (c d p1 q1 p2 q2 : Int) (w : World) (L : Laid w) (h1 : meetV c d (-9223372036854775808) (-1) = .agg #[.int .i64 p1, .int .i64 q1]) (h2 : meetV c d 1 9223372036854775807 = .agg #[.int .i64 p2, .int .i64 q2]) (e1 : q1 < p1) (e2 : ¬ q2 < p2) :
    Calls Tryd.prog 50 #[.agg #[.int .i64 c, .int .i64 d]] w fun e w' => ∃ b cap, e = .returned (.slice (some ⟨b, 0, none⟩) 2 cap) ∧ Ints w' b 2 [p2, q2] ∧ Below w.heap.size w w' := by
  obtain ⟨i0, hi, hz0, hz1, hz2⟩ := info_parts info64
  have H1 := Lib.hid h1
  have H2 := Lib.hid h2
  have HL := Lib.hid L
  have d1 : decide (q1 < p1) = true := by simpa using e1
  have d2 : decide (q2 < p2) = false := by simpa using e2
  clear h1 h2 L e1 e2
  go_enter Tryd.func50, Tryd.ntmps50
  go_wp2
  refine wp_loop_rounds 3 ?_
  rw [rounds_succ]
  go_wp2_with fail
  refine (meet_any _ _ _ _ _ (HL.out.after (by go_grown))).mono ?_
  rw [H1.out]
  rintro e w1 ⟨rfl, hb1⟩
  have D1 : Hid (DivBox w c d w1) := DivBox.below ⟨by go_cell, by go_cell, by go_cell, by go_cell, by go_cell, by go_cell⟩ hb1
  have B1 : Hid (Below w.heap.size w w1) := after (by go_grown) hb1
  obtain ⟨x0, x1, x2, x3, x4, x5⟩ := D1.out
  obtain ⟨⟨z0, z0a, z0b, z0c⟩, z1, z1a, z1b, z1c⟩ := box_size D1.out
  clear hb1
  go_wp2_with (go_at_call 18; refine (empty_box _ _ _).mono ?_; rintro e w' ⟨rfl, rfl⟩; rw [d1])
  rw [rounds_succ]
  go_wp2_with fail
  refine (meet_any _ _ _ _ _ (HL.out.after (by (repeat' (first | (with_reducible exact Below.refl _ _) | (with_reducible exact B1.out) | (with_reducible refine boxed ?_ _) | (with_reducible refine Below.drew ?_)))))).mono ?_
  rw [H2.out]
  rintro e w3 ⟨rfl, hb3⟩
  have D3 : Hid (DivBox w c d w3) := DivBox.below ⟨by go_cell, by go_cell, by go_cell, by go_cell, by go_cell, by go_cell⟩ hb3
  have B3 : Hid (Below w.heap.size w w3) := after (by (repeat' (first | (with_reducible exact Below.refl _ _) | (with_reducible exact B1.out) | (with_reducible refine boxed ?_ _) | (with_reducible refine Below.drew ?_)))) hb3
  clear x0 x1 x2 x3 x4 x5 z0 z0a z0b z0c z1 z1a z1b z1c hb3
  obtain ⟨x0, x1, x2, x3, x4, x5⟩ := D3.out
  obtain ⟨⟨z0, z0a, z0b, z0c⟩, z1, z1a, z1b, z1c⟩ := box_size D3.out
  go_wp2_with (first | (go_at_call 18; refine (empty_box _ _ _).mono ?_; rintro e w' ⟨rfl, rfl⟩; rw [d2]) | (at_builtin; refine wpList_append_own _ rfl _ _ 45 rfl w.heap.size 2 i0 (.int .i64 0) 1 8 Tryd.underlying45 hi hz0 hz1 hz2 rfl (by decide) _ _ _ rfl (World.ownsRow_nil _ _ _ _) ⟨w3.heap.size + 1 + 1, 0, none⟩ 2 2 [.int .i64 p2, .int .i64 q2] rfl rfl ?m1 ?m2 ?m3 ?m4 ?m5 ?_))
  case m1 =>
    intro j u hj
    match j, hj with
    | 0, hj => simp at hj; subst hj; exact World.cell?_alloc_at _ _ _ _ (by simp)
    | 1, hj => simp at hj; subst hj; exact World.cell?_alloc_at _ _ _ _ (by simp)
  case m2 => intro u hu; simp at hu; rcases hu with rfl | rfl <;> rfl
  case m3 => unfold maxLen; omega
  case m4 => omega
  case m5 => simp; omega
  intro v4 w4 hown4 hgrow4 _
  obtain ⟨g4, cap4, rfl⟩ := row_some (n := 1) hown4
  have B4 : Hid (Below w.heap.size w w4) := Below.grown (boxed (boxed (boxed B3.out _) _) _) hgrow4 (by have := B3.out.size; simp only [World.size_alloc]; omega) (fun k hk => by cases hk)
  have O4 := Lib.hid hown4
  clear hown4 hgrow4
  go_wp2_with fail
  rw [rounds_succ]
  go_wp2_with fail
  go_returns
  refine ⟨_, _, rfl, ⟨rfl, fun i hi => ?_⟩, by (repeat' (first | (with_reducible exact Below.refl _ _) | (with_reducible exact B4.out) | (with_reducible refine boxed ?_ _) | (with_reducible refine Below.drew ?_)))⟩
  have hc := O4.out.cellAt i (by omega)
  try simp only [List.nil_append] at hc
  rcases (show i = 0 ∨ i = 1 by omega) with rfl | rfl
  all_goals first | exact hc | (rw [World.cell?_alloc_lt (block_lt_of_cell hc)]; exact hc) | (go_simp; exact hc)

end Go.Proofs.YtdbfaekdkjclcaaDoor
