
/-
  THE REFERENCE's Range, operator by operator.
-/
import Derived.Test.YtdbfaekdkjclcaaDoorNumQr
import Derived.Test.YtdbfaekdkjclcaaDoorNumQc
import Derived.Deep.RegionHeld3
namespace Go.Proofs.YtdbfaekdkjclcaaDoor
open Go Go.RowKit

set_option maxRecDepth 100000 in
set_option maxHeartbeats 8000000 in
theorem rrange_1 (a b c d : Int) (hab : ¬ b < a) (hcd : ¬ d < c) (ia : I64 a) (ib : I64 b) (ic : I64 c) (id : I64 d) (w : World) : Calls Tryd.prog 8 #[.int .u8 1, .agg #[.int .i64 a, .int .i64 b], .agg #[.int .i64 c, .int .i64 d]] w (Gives w (hullV 1 [a, b] [c, d])) := by
  have ea : decide (b < a) = false := by simpa using hab
  have eb : decide (d < c) = false := by simpa using hcd
  have eu : unaryB 1 = false := rfl
  clear hab hcd
  obtain ⟨u, v, huv⟩ := hull_iv 1 [a, b] [c, d]
  have HU := Lib.hid huv
  rw [huv]
  clear huv
  cases z1 : (c == 0)
  all_goals cases z2 : (d == 0)
  all_goals
   have R0 := Lib.hid (FBox.start w a b c d)
   go_enter Tryd.func8, Tryd.ntmps8
   go_wp2_with fail
   refine (rempty_any _ _ _).mono ?_; rw [ea]; rintro e w1 ⟨rfl, hb⟩
   have R1 := Lib.hid (R0.out.below hb)
   clear hb
   obtain ⟨k0, k1, k2, k3, _, _⟩ := R1.out
   go_wp2_with fail
   refine (runary_any _ _).mono ?_; rw [eu]; rintro e w2 ⟨rfl, hb⟩
   have R2 := Lib.hid (R1.out.below hb)
   clear hb k0 k1 k2 k3
   obtain ⟨k0, k1, k2, k3, _, _⟩ := R2.out
   go_wp2_with fail
   refine (rempty_any _ _ _).mono ?_; rw [eb]; rintro e w3 ⟨rfl, hb⟩
   have R3 := Lib.hid (R2.out.below hb)
   clear hb k0 k1 k2 k3
   obtain ⟨k0, k1, k2, k3, _, _⟩ := R3.out
   clear R0 R1 R2
   obtain ⟨q0, q1, q2, q3, _, _⟩ := R3.out.alloc (.cells #[.int .i64 a, .int .i64 b] 2 (0, 0))
   go_wp2_with fail
   refine (rcorners_any 1 (by omega) (by omega) _ _ _ _ [a, b] [c, d] _ (ints_two (by go_cell) (by go_cell)) (ints_two (by go_cell) (by go_cell)) (fun z hz => by rcases List.mem_cons.1 hz with rfl | hz; exact ia; rcases List.mem_cons.1 hz with rfl | hz; exact ib; cases hz) (fun z hz => ⟨(by rcases List.mem_cons.1 hz with rfl | hz; exact ic; rcases List.mem_cons.1 hz with rfl | hz; exact id; cases hz), fun h => by cases h⟩) (by simp) (by simp) (by simp) (by simp)).mono ?_; rw [HU.out]; rintro e w4 ⟨rfl, hb⟩
   have R9 := Lib.hid (((R3.out.alloc _).alloc _).below hb)
   clear hb k0 k1 k2 k3
   have g0 := R9.out.vR.c0
   have g1 := R9.out.vR.c1
   have g2 := R9.out.vR.f0
   have g3 := R9.out.vR.f1
   go_wp2_with fail
   refine bodyPost_ret (v := .agg #[.int .i64 u, .int .i64 v]) (by simp [results, Tryd.results8, go_sem, *]) rfl ⟨rfl, R9.out.done _ _⟩

set_option maxRecDepth 100000 in
set_option maxHeartbeats 8000000 in
theorem rrange_2 (a b c d : Int) (hab : ¬ b < a) (hcd : ¬ d < c) (ia : I64 a) (ib : I64 b) (ic : I64 c) (id : I64 d) (w : World) : Calls Tryd.prog 8 #[.int .u8 2, .agg #[.int .i64 a, .int .i64 b], .agg #[.int .i64 c, .int .i64 d]] w (Gives w (hullV 2 [a, b] [c, d])) := by
  have ea : decide (b < a) = false := by simpa using hab
  have eb : decide (d < c) = false := by simpa using hcd
  have eu : unaryB 2 = false := rfl
  clear hab hcd
  obtain ⟨u, v, huv⟩ := hull_iv 2 [a, b] [c, d]
  have HU := Lib.hid huv
  rw [huv]
  clear huv
  cases z1 : (c == 0)
  all_goals cases z2 : (d == 0)
  all_goals
   have R0 := Lib.hid (FBox.start w a b c d)
   go_enter Tryd.func8, Tryd.ntmps8
   go_wp2_with fail
   refine (rempty_any _ _ _).mono ?_; rw [ea]; rintro e w1 ⟨rfl, hb⟩
   have R1 := Lib.hid (R0.out.below hb)
   clear hb
   obtain ⟨k0, k1, k2, k3, _, _⟩ := R1.out
   go_wp2_with fail
   refine (runary_any _ _).mono ?_; rw [eu]; rintro e w2 ⟨rfl, hb⟩
   have R2 := Lib.hid (R1.out.below hb)
   clear hb k0 k1 k2 k3
   obtain ⟨k0, k1, k2, k3, _, _⟩ := R2.out
   go_wp2_with fail
   refine (rempty_any _ _ _).mono ?_; rw [eb]; rintro e w3 ⟨rfl, hb⟩
   have R3 := Lib.hid (R2.out.below hb)
   clear hb k0 k1 k2 k3
   obtain ⟨k0, k1, k2, k3, _, _⟩ := R3.out
   clear R0 R1 R2
   obtain ⟨q0, q1, q2, q3, _, _⟩ := R3.out.alloc (.cells #[.int .i64 a, .int .i64 b] 2 (0, 0))
   go_wp2_with fail
   refine (rcorners_any 2 (by omega) (by omega) _ _ _ _ [a, b] [c, d] _ (ints_two (by go_cell) (by go_cell)) (ints_two (by go_cell) (by go_cell)) (fun z hz => by rcases List.mem_cons.1 hz with rfl | hz; exact ia; rcases List.mem_cons.1 hz with rfl | hz; exact ib; cases hz) (fun z hz => ⟨(by rcases List.mem_cons.1 hz with rfl | hz; exact ic; rcases List.mem_cons.1 hz with rfl | hz; exact id; cases hz), fun h => by cases h⟩) (by simp) (by simp) (by simp) (by simp)).mono ?_; rw [HU.out]; rintro e w4 ⟨rfl, hb⟩
   have R9 := Lib.hid (((R3.out.alloc _).alloc _).below hb)
   clear hb k0 k1 k2 k3
   have g0 := R9.out.vR.c0
   have g1 := R9.out.vR.c1
   have g2 := R9.out.vR.f0
   have g3 := R9.out.vR.f1
   go_wp2_with fail
   refine bodyPost_ret (v := .agg #[.int .i64 u, .int .i64 v]) (by simp [results, Tryd.results8, go_sem, *]) rfl ⟨rfl, R9.out.done _ _⟩

set_option maxRecDepth 100000 in
set_option maxHeartbeats 8000000 in
theorem rrange_3 (a b c d : Int) (hab : ¬ b < a) (hcd : ¬ d < c) (ia : I64 a) (ib : I64 b) (ic : I64 c) (id : I64 d) (w : World) : Calls Tryd.prog 8 #[.int .u8 3, .agg #[.int .i64 a, .int .i64 b], .agg #[.int .i64 c, .int .i64 d]] w (Gives w (hullV 3 [a, b] [c, d])) := by
  have ea : decide (b < a) = false := by simpa using hab
  have eb : decide (d < c) = false := by simpa using hcd
  have eu : unaryB 3 = false := rfl
  clear hab hcd
  obtain ⟨u, v, huv⟩ := hull_iv 3 [a, b] [c, d]
  have HU := Lib.hid huv
  rw [huv]
  clear huv
  cases z1 : (c == 0)
  all_goals cases z2 : (d == 0)
  all_goals
   have R0 := Lib.hid (FBox.start w a b c d)
   go_enter Tryd.func8, Tryd.ntmps8
   go_wp2_with fail
   refine (rempty_any _ _ _).mono ?_; rw [ea]; rintro e w1 ⟨rfl, hb⟩
   have R1 := Lib.hid (R0.out.below hb)
   clear hb
   obtain ⟨k0, k1, k2, k3, _, _⟩ := R1.out
   go_wp2_with fail
   refine (runary_any _ _).mono ?_; rw [eu]; rintro e w2 ⟨rfl, hb⟩
   have R2 := Lib.hid (R1.out.below hb)
   clear hb k0 k1 k2 k3
   obtain ⟨k0, k1, k2, k3, _, _⟩ := R2.out
   go_wp2_with fail
   refine (rempty_any _ _ _).mono ?_; rw [eb]; rintro e w3 ⟨rfl, hb⟩
   have R3 := Lib.hid (R2.out.below hb)
   clear hb k0 k1 k2 k3
   obtain ⟨k0, k1, k2, k3, _, _⟩ := R3.out
   clear R0 R1 R2
   obtain ⟨q0, q1, q2, q3, _, _⟩ := R3.out.alloc (.cells #[.int .i64 a, .int .i64 b] 2 (0, 0))
   go_wp2_with fail
   refine (rcorners_any 3 (by omega) (by omega) _ _ _ _ [a, b] [c, d] _ (ints_two (by go_cell) (by go_cell)) (ints_two (by go_cell) (by go_cell)) (fun z hz => by rcases List.mem_cons.1 hz with rfl | hz; exact ia; rcases List.mem_cons.1 hz with rfl | hz; exact ib; cases hz) (fun z hz => ⟨(by rcases List.mem_cons.1 hz with rfl | hz; exact ic; rcases List.mem_cons.1 hz with rfl | hz; exact id; cases hz), fun h => by cases h⟩) (by simp) (by simp) (by simp) (by simp)).mono ?_; rw [HU.out]; rintro e w4 ⟨rfl, hb⟩
   have R9 := Lib.hid (((R3.out.alloc _).alloc _).below hb)
   clear hb k0 k1 k2 k3
   have g0 := R9.out.vR.c0
   have g1 := R9.out.vR.c1
   have g2 := R9.out.vR.f0
   have g3 := R9.out.vR.f1
   go_wp2_with fail
   refine bodyPost_ret (v := .agg #[.int .i64 u, .int .i64 v]) (by simp [results, Tryd.results8, go_sem, *]) rfl ⟨rfl, R9.out.done _ _⟩

set_option maxRecDepth 100000 in
set_option maxHeartbeats 8000000 in
theorem rrange_16 (a b c d : Int) (hab : ¬ b < a) (ia : I64 a) (ib : I64 b) (w : World) : Calls Tryd.prog 8 #[.int .u8 16, .agg #[.int .i64 a, .int .i64 b], .agg #[.int .i64 c, .int .i64 d]] w (Gives w (hullV 2 [0] [a, b])) := by
  have ea : decide (b < a) = false := by simpa using hab
  have eu : unaryB 16 = true := rfl
  clear hab
  obtain ⟨u, v, huv⟩ := hull_iv 2 [0] [a, b]
  have HU := Lib.hid huv
  rw [huv]
  clear huv
  cases z1 : (c == 0)
  all_goals cases z2 : (d == 0)
  all_goals
   have R0 := Lib.hid (FBox.start w a b c d)
   go_enter Tryd.func8, Tryd.ntmps8
   go_wp2_with fail
   refine (rempty_any _ _ _).mono ?_; rw [ea]; rintro e w1 ⟨rfl, hb⟩
   have R1 := Lib.hid (R0.out.below hb)
   clear hb
   obtain ⟨k0, k1, k2, k3, _, _⟩ := R1.out
   go_wp2_with fail
   refine (runary_any _ _).mono ?_; rw [eu]; rintro e w2 ⟨rfl, hb⟩
   have R2 := Lib.hid (R1.out.below hb)
   clear hb k0 k1 k2 k3
   obtain ⟨k0, k1, k2, k3, _, _⟩ := R2.out
   have R3 := R2
   clear R0 R1 R2
   obtain ⟨q0, q1, _, _, _, _⟩ := R3.out.alloc (.cells #[.int .i64 0] 2 (0, 0))
   go_wp2_with fail
   refine (rcorners_any 2 (by omega) (by omega) _ _ _ _ [0] [a, b] _ (ints_one (by go_cell)) (ints_two (by go_cell) (by go_cell)) (fun z hz => by rcases List.mem_cons.1 hz with rfl | hz; (unfold I64; omega); cases hz) (fun z hz => ⟨(by rcases List.mem_cons.1 hz with rfl | hz; exact ia; rcases List.mem_cons.1 hz with rfl | hz; exact ib; cases hz), fun h => by cases h⟩) (by simp) (by simp) (by simp) (by simp)).mono ?_; rw [HU.out]; rintro e w4 ⟨rfl, hb⟩
   have R9 := Lib.hid (((R3.out.alloc _).alloc _).below hb)
   clear hb k0 k1 k2 k3
   have g0 := R9.out.vR.c0
   have g1 := R9.out.vR.c1
   have g2 := R9.out.vR.f0
   have g3 := R9.out.vR.f1
   go_wp2_with fail
   refine bodyPost_ret (v := .agg #[.int .i64 u, .int .i64 v]) (by simp [results, Tryd.results8, go_sem, *]) rfl ⟨rfl, R9.out.done _ _⟩

set_option maxRecDepth 100000 in
set_option maxHeartbeats 8000000 in
theorem rrange_18 (a b c d : Int) (hab : ¬ b < a) (ia : I64 a) (ib : I64 b) (w : World) : Calls Tryd.prog 8 #[.int .u8 18, .agg #[.int .i64 a, .int .i64 b], .agg #[.int .i64 c, .int .i64 d]] w (Gives w (hullV 2 [1] [a, b])) := by
  have ea : decide (b < a) = false := by simpa using hab
  have eu : unaryB 18 = true := rfl
  clear hab
  obtain ⟨u, v, huv⟩ := hull_iv 2 [1] [a, b]
  have HU := Lib.hid huv
  rw [huv]
  clear huv
  cases z1 : (c == 0)
  all_goals cases z2 : (d == 0)
  all_goals
   have R0 := Lib.hid (FBox.start w a b c d)
   go_enter Tryd.func8, Tryd.ntmps8
   go_wp2_with fail
   refine (rempty_any _ _ _).mono ?_; rw [ea]; rintro e w1 ⟨rfl, hb⟩
   have R1 := Lib.hid (R0.out.below hb)
   clear hb
   obtain ⟨k0, k1, k2, k3, _, _⟩ := R1.out
   go_wp2_with fail
   refine (runary_any _ _).mono ?_; rw [eu]; rintro e w2 ⟨rfl, hb⟩
   have R2 := Lib.hid (R1.out.below hb)
   clear hb k0 k1 k2 k3
   obtain ⟨k0, k1, k2, k3, _, _⟩ := R2.out
   have R3 := R2
   clear R0 R1 R2
   obtain ⟨q0, q1, _, _, _, _⟩ := R3.out.alloc (.cells #[.int .i64 1] 2 (0, 0))
   go_wp2_with fail
   refine (rcorners_any 2 (by omega) (by omega) _ _ _ _ [1] [a, b] _ (ints_one (by go_cell)) (ints_two (by go_cell) (by go_cell)) (fun z hz => by rcases List.mem_cons.1 hz with rfl | hz; (unfold I64; omega); cases hz) (fun z hz => ⟨(by rcases List.mem_cons.1 hz with rfl | hz; exact ia; rcases List.mem_cons.1 hz with rfl | hz; exact ib; cases hz), fun h => by cases h⟩) (by simp) (by simp) (by simp) (by simp)).mono ?_; rw [HU.out]; rintro e w4 ⟨rfl, hb⟩
   have R9 := Lib.hid (((R3.out.alloc _).alloc _).below hb)
   clear hb k0 k1 k2 k3
   have g0 := R9.out.vR.c0
   have g1 := R9.out.vR.c1
   have g2 := R9.out.vR.f0
   have g3 := R9.out.vR.f1
   go_wp2_with fail
   refine bodyPost_ret (v := .agg #[.int .i64 u, .int .i64 v]) (by simp [results, Tryd.results8, go_sem, *]) rfl ⟨rfl, R9.out.done _ _⟩

end Go.Proofs.YtdbfaekdkjclcaaDoor
