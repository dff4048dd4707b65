/-
  THE WALK OF THE LAW NumIvals.
-/
import Derived.Test.YtmmplaabgnmkcaaDoorNumRa
import Derived.Test.YtmmplaabgnmkcaaDoorNumO
namespace Go.Proofs.YtmmplaabgnmkcaaDoor
open Go Go.RowKit

theorem meet_iv (a b c d : Int) : ∃ p q, meetV a b c d = .agg #[.int .i64 p, .int .i64 q] := by
  unfold meetV
  split <;> exact ⟨_, _, rfl⟩
theorem widen_iv (a b c d p q : Int) : ∃ x y, widenV a b c d p q = .agg #[.int .i64 x, .int .i64 y] := by
  unfold widenV
  split
  · exact join_iv a b c d
  · exact ⟨_, _, rfl⟩

set_option maxHeartbeats 4000000 in
theorem law_numIvals (a0 a1 b0 b1 c0 c1 v : Int) (w : World) (L : Laid w) (_ha0 : -9223372036854775808 ≤ a0 ∧ a0 ≤ 9223372036854775807) (_ha1 : -9223372036854775808 ≤ a1 ∧ a1 ≤ 9223372036854775807) (_hb0 : -9223372036854775808 ≤ b0 ∧ b0 ≤ 9223372036854775807) (_hb1 : -9223372036854775808 ≤ b1 ∧ b1 ≤ 9223372036854775807) (_hc0 : -9223372036854775808 ≤ c0 ∧ c0 ≤ 9223372036854775807) (_hc1 : -9223372036854775808 ≤ c1 ∧ c1 ≤ 9223372036854775807) (_hv : -9223372036854775808 ≤ v ∧ v ≤ 9223372036854775807) :
    Calls Tryd.prog 5 #[.agg #[.int .i64 a0, .int .i64 a1], .agg #[.int .i64 b0, .int .i64 b1], .agg #[.int .i64 c0, .int .i64 c1], .int .i64 v] w (Gives w (.bool true)) := by
  obtain ⟨j0, j1, hj⟩ := join_iv a0 a1 b0 b1
  obtain ⟨m0, m1, hm⟩ := meet_iv a0 a1 b0 b1
  obtain ⟨x0, x1, hx⟩ := widen_iv a0 a1 b0 b1 c0 c1
  have HJ := Lib.hid hj
  have HM := Lib.hid hm
  have HX := Lib.hid hx
  have HL := Lib.hid L
  clear hj hm hx L _ha0 _ha1 _hb0 _hb1 _hc0 _hc1 _hv
  go_enter Tryd.func5, Tryd.ntmps5
  go_wp2
  go_region_held3 (fun w' => w'.cell? ⟨w.heap.size, 0, none⟩ = some (.int .i64 a0) ∧ w'.cell? ⟨w.heap.size, 1, none⟩ = some (.int .i64 a1) ∧ w'.cell? ⟨w.heap.size + 1, 0, none⟩ = some (.int .i64 b0) ∧ w'.cell? ⟨w.heap.size + 1, 1, none⟩ = some (.int .i64 b1) ∧ w'.cell? ⟨w.heap.size + 1 + 1, 0, none⟩ = some (.int .i64 c0) ∧ w'.cell? ⟨w.heap.size + 1 + 1, 1, none⟩ = some (.int .i64 c1))
    (first | (go_split_ands; refine ⟨?_, ?_, ?_, ?_, ?_, ?_⟩ <;> exact keepC (by assumption) (by assumption)) | (refine ⟨?_, ?_, ?_, ?_, ?_, ?_⟩ <;> go_cell))
    (first
      | (go_at_call 19; refine (has_any _ _ _ _).mono ?_; rintro e w1 ⟨rfl, hb⟩)
      | (go_at_call 20; refine (rhas_any _ _ _ _).mono ?_; rintro e w1 ⟨rfl, hb⟩)
      | (go_at_call 21; refine (lies_any _ _ _ _ _).mono ?_; rintro e w1 ⟨rfl, hb⟩)
      | (go_at_call 22; refine (rlies_any _ _ _ _ _).mono ?_; rintro e w1 ⟨rfl, hb⟩)
      | (go_at_call 23; refine (join_any _ _ _ _ _ (HL.out.after (by (repeat' (first | (with_reducible exact Below.refl _ _) | (with_reducible assumption) | (with_reducible refine boxed ?_ _) | (with_reducible refine Below.drew ?_) | (with_reducible refine after ?_ (by assumption)))); go_grown))).mono ?_; rw [HJ.out]; rintro e w1 ⟨rfl, hb⟩)
      | (go_at_call 24; refine (rjoin_any _ _ _ _ _).mono ?_; rw [HJ.out]; rintro e w1 ⟨rfl, hb⟩)
      | (go_at_call 25; refine (meet_any _ _ _ _ _ (HL.out.after (by (repeat' (first | (with_reducible exact Below.refl _ _) | (with_reducible assumption) | (with_reducible refine boxed ?_ _) | (with_reducible refine Below.drew ?_) | (with_reducible refine after ?_ (by assumption)))); go_grown))).mono ?_; rw [HM.out]; rintro e w1 ⟨rfl, hb⟩)
      | (go_at_call 26; refine (rmeet_any _ _ _ _ _).mono ?_; rw [HM.out]; rintro e w1 ⟨rfl, hb⟩)
      | (go_at_call 27; refine (widen_any _ _ _ _ _ _ _ (HL.out.after (by (repeat' (first | (with_reducible exact Below.refl _ _) | (with_reducible assumption) | (with_reducible refine boxed ?_ _) | (with_reducible refine Below.drew ?_) | (with_reducible refine after ?_ (by assumption)))); go_grown))).mono ?_; rw [HX.out]; rintro e w1 ⟨rfl, hb⟩)
      | (go_at_call 28; refine (rwiden_any _ _ _ _ _ _ _).mono ?_; rw [HX.out]; rintro e w1 ⟨rfl, hb⟩)
      | (go_at_call 16; refine (head_true _ (HL.out.after (by (repeat' (first | (with_reducible exact Below.refl _ _) | (with_reducible assumption) | (with_reducible refine boxed ?_ _) | (with_reducible refine Below.drew ?_) | (with_reducible refine after ?_ (by assumption)))); go_grown))).mono ?_; rintro e w1 ⟨rfl, hb⟩))
  all_goals go_wp2
  all_goals go_returns
  all_goals exact ⟨rfl, by (repeat' (first | (with_reducible exact Below.refl _ _) | (with_reducible assumption) | (with_reducible refine boxed ?_ _) | (with_reducible refine Below.drew ?_) | (with_reducible refine after ?_ (by assumption)))); go_grown⟩

end Go.Proofs.YtmmplaabgnmkcaaDoor
