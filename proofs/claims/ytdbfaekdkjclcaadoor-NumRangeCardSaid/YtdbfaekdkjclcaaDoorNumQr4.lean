
/-
  THE REFERENCE's Range, operator by operator.
-/
import Derived.Test.YtdbfaekdkjclcaaDoorNumQr
import Derived.Test.YtdbfaekdkjclcaaDoorNumQf
import Derived.Deep.RegionHeld3
namespace Go.Proofs.YtdbfaekdkjclcaaDoor
open Go Go.RowKit

set_option maxRecDepth 100000 in
set_option maxHeartbeats 8000000 in
theorem rrange_5 (a b c d : Int) (hab : ¬ b < a) (hcd : ¬ d < c) (ic : I64 c) (id : I64 d) (hz : ¬ (c = 0 ∧ d = 0)) (w : World) : Calls Tryd.prog 8 #[.int .u8 5, .agg #[.int .i64 a, .int .i64 b], .agg #[.int .i64 c, .int .i64 d]] w (Gives w (remV a b c d)) := by
  have HZ : Hid (¬ (c = 0 ∧ d = 0)) := hz
  have HC : Hid (¬ d < c) := hcd
  clear hz
  have ea : decide (b < a) = false := by simpa using hab
  have eb : decide (d < c) = false := by simpa using hcd
  have eu : unaryB 5 = false := rfl
  clear hab hcd
  obtain ⟨u, v, huv⟩ : ∃ u v, remV a b c d = .agg #[.int .i64 u, .int .i64 v] := ⟨_, _, rfl⟩
  have HU := Lib.hid huv
  rw [huv]
  clear huv
  cases z1 : (c == 0)
  all_goals cases z2 : (d == 0)
  all_goals try (exfalso; have hz' := HZ.out; exact hz' ⟨by simpa using z1, by simpa using z2⟩)
  all_goals
   have R0 := Lib.hid (FBox.start w a b c d)
   go_enter Tryd.func8, Tryd.ntmps8
   go_wp2_with fail
   refine (rempty_any _ _ _).mono ?_; rw [ea]; rintro e w1 ⟨rfl, hb⟩
   have R1 := Lib.hid (R0.out.below hb)
   clear hb
   obtain ⟨k0, k1, k2, k3, _, _⟩ := R1.out
   go_wp2_with fail
   refine (runary_any _ _).mono ?_; rw [eu]; rintro e w2 ⟨rfl, hb⟩
   have R2 := Lib.hid (R1.out.below hb)
   clear hb k0 k1 k2 k3
   obtain ⟨k0, k1, k2, k3, _, _⟩ := R2.out
   go_wp2_with fail
   refine (rempty_any _ _ _).mono ?_; rw [eb]; rintro e w3 ⟨rfl, hb⟩
   have R3 := Lib.hid (R2.out.below hb)
   clear hb k0 k1 k2 k3
   obtain ⟨k0, k1, k2, k3, _, _⟩ := R3.out
   clear R0 R1 R2
   go_wp2_with fail
   refine (rremainder_any _ _ _ _ ic id (by have := HC.out; omega) (by have := HZ.out; omega) _).mono ?_; rw [HU.out]; rintro e w4 ⟨rfl, hb⟩
   have R9 := Lib.hid (R3.out.below hb)
   clear hb k0 k1 k2 k3
   have g0 := R9.out.vR.c0
   have g1 := R9.out.vR.c1
   have g2 := R9.out.vR.f0
   have g3 := R9.out.vR.f1
   go_wp2_with fail
   refine bodyPost_ret (v := .agg #[.int .i64 u, .int .i64 v]) (by simp [results, Tryd.results8, go_sem, *]) rfl ⟨rfl, R9.out.done _ _⟩

set_option maxRecDepth 100000 in
set_option maxHeartbeats 8000000 in
theorem rrange_5_zero (a b c d : Int) (hab : ¬ b < a) (hcd : ¬ d < c) (z1 : (c == 0) = true) (z2 : (d == 0) = true) (w : World) : Calls Tryd.prog 8 #[.int .u8 5, .agg #[.int .i64 a, .int .i64 b], .agg #[.int .i64 c, .int .i64 d]] w (Gives w (.agg #[.int .i64 1, .int .i64 0])) := by
  have ea : decide (b < a) = false := by simpa using hab
  have eb : decide (d < c) = false := by simpa using hcd
  have eu : unaryB 5 = false := rfl
  clear hab hcd
  have R0 := Lib.hid (FBox.start w a b c d)
  go_enter Tryd.func8, Tryd.ntmps8
  go_wp2_with fail
  refine (rempty_any _ _ _).mono ?_; rw [ea]; rintro e w1 ⟨rfl, hb⟩
  have R1 := Lib.hid (R0.out.below hb)
  clear hb
  obtain ⟨k0, k1, k2, k3, _, _⟩ := R1.out
  go_wp2_with fail
  refine (runary_any _ _).mono ?_; rw [eu]; rintro e w2 ⟨rfl, hb⟩
  have R2 := Lib.hid (R1.out.below hb)
  clear hb k0 k1 k2 k3
  obtain ⟨k0, k1, k2, k3, _, _⟩ := R2.out
  go_wp2_with fail
  refine (rempty_any _ _ _).mono ?_; rw [eb]; rintro e w3 ⟨rfl, hb⟩
  have R3 := Lib.hid (R2.out.below hb)
  clear hb k0 k1 k2 k3
  obtain ⟨k0, k1, k2, k3, _, _⟩ := R3.out
  clear R0 R1 R2
  go_wp2_with fail
  refine (rnone_lit _).mono ?_; rintro e w4 ⟨rfl, hb⟩
  have R9 := Lib.hid (R3.out.below hb)
  clear hb k0 k1 k2 k3
  have g0 := R9.out.vR.c0
  have g1 := R9.out.vR.c1
  have g2 := R9.out.vR.f0
  have g3 := R9.out.vR.f1
  go_wp2_with fail
  refine bodyPost_ret (v := .agg #[.int .i64 1, .int .i64 0]) (by simp [results, Tryd.results8, go_sem, *]) rfl ⟨rfl, R9.out.done _ _⟩

set_option maxRecDepth 100000 in
set_option maxHeartbeats 8000000 in
theorem rrange_6 (a b c d : Int) (hab : ¬ b < a) (hcd : ¬ d < c) (ic : I64 c) (id : I64 d) (hz : ¬ (c = 0 ∧ d = 0)) (w : World) : Calls Tryd.prog 8 #[.int .u8 6, .agg #[.int .i64 a, .int .i64 b], .agg #[.int .i64 c, .int .i64 d]] w (Gives w (modIV a b c d)) := by
  have HZ : Hid (¬ (c = 0 ∧ d = 0)) := hz
  have HC : Hid (¬ d < c) := hcd
  clear hz
  have ea : decide (b < a) = false := by simpa using hab
  have eb : decide (d < c) = false := by simpa using hcd
  have eu : unaryB 6 = false := rfl
  clear hab hcd
  obtain ⟨u, v, huv⟩ : ∃ u v, modIV a b c d = .agg #[.int .i64 u, .int .i64 v] := ⟨_, _, rfl⟩
  have HU := Lib.hid huv
  rw [huv]
  clear huv
  cases z1 : (c == 0)
  all_goals cases z2 : (d == 0)
  all_goals try (exfalso; have hz' := HZ.out; exact hz' ⟨by simpa using z1, by simpa using z2⟩)
  all_goals
   have R0 := Lib.hid (FBox.start w a b c d)
   go_enter Tryd.func8, Tryd.ntmps8
   go_wp2_with fail
   refine (rempty_any _ _ _).mono ?_; rw [ea]; rintro e w1 ⟨rfl, hb⟩
   have R1 := Lib.hid (R0.out.below hb)
   clear hb
   obtain ⟨k0, k1, k2, k3, _, _⟩ := R1.out
   go_wp2_with fail
   refine (runary_any _ _).mono ?_; rw [eu]; rintro e w2 ⟨rfl, hb⟩
   have R2 := Lib.hid (R1.out.below hb)
   clear hb k0 k1 k2 k3
   obtain ⟨k0, k1, k2, k3, _, _⟩ := R2.out
   go_wp2_with fail
   refine (rempty_any _ _ _).mono ?_; rw [eb]; rintro e w3 ⟨rfl, hb⟩
   have R3 := Lib.hid (R2.out.below hb)
   clear hb k0 k1 k2 k3
   obtain ⟨k0, k1, k2, k3, _, _⟩ := R3.out
   clear R0 R1 R2
   go_wp2_with fail
   refine (rmodular_any _ _ _ _ ic id _).mono ?_; rw [HU.out]; rintro e w4 ⟨rfl, hb⟩
   have R9 := Lib.hid (R3.out.below hb)
   clear hb k0 k1 k2 k3
   have g0 := R9.out.vR.c0
   have g1 := R9.out.vR.c1
   have g2 := R9.out.vR.f0
   have g3 := R9.out.vR.f1
   go_wp2_with fail
   refine bodyPost_ret (v := .agg #[.int .i64 u, .int .i64 v]) (by simp [results, Tryd.results8, go_sem, *]) rfl ⟨rfl, R9.out.done _ _⟩

set_option maxRecDepth 100000 in
set_option maxHeartbeats 8000000 in
theorem rrange_6_zero (a b c d : Int) (hab : ¬ b < a) (hcd : ¬ d < c) (z1 : (c == 0) = true) (z2 : (d == 0) = true) (w : World) : Calls Tryd.prog 8 #[.int .u8 6, .agg #[.int .i64 a, .int .i64 b], .agg #[.int .i64 c, .int .i64 d]] w (Gives w (.agg #[.int .i64 1, .int .i64 0])) := by
  have ea : decide (b < a) = false := by simpa using hab
  have eb : decide (d < c) = false := by simpa using hcd
  have eu : unaryB 6 = false := rfl
  clear hab hcd
  have R0 := Lib.hid (FBox.start w a b c d)
  go_enter Tryd.func8, Tryd.ntmps8
  go_wp2_with fail
  refine (rempty_any _ _ _).mono ?_; rw [ea]; rintro e w1 ⟨rfl, hb⟩
  have R1 := Lib.hid (R0.out.below hb)
  clear hb
  obtain ⟨k0, k1, k2, k3, _, _⟩ := R1.out
  go_wp2_with fail
  refine (runary_any _ _).mono ?_; rw [eu]; rintro e w2 ⟨rfl, hb⟩
  have R2 := Lib.hid (R1.out.below hb)
  clear hb k0 k1 k2 k3
  obtain ⟨k0, k1, k2, k3, _, _⟩ := R2.out
  go_wp2_with fail
  refine (rempty_any _ _ _).mono ?_; rw [eb]; rintro e w3 ⟨rfl, hb⟩
  have R3 := Lib.hid (R2.out.below hb)
  clear hb k0 k1 k2 k3
  obtain ⟨k0, k1, k2, k3, _, _⟩ := R3.out
  clear R0 R1 R2
  go_wp2_with fail
  refine (rnone_lit _).mono ?_; rintro e w4 ⟨rfl, hb⟩
  have R9 := Lib.hid (R3.out.below hb)
  clear hb k0 k1 k2 k3
  have g0 := R9.out.vR.c0
  have g1 := R9.out.vR.c1
  have g2 := R9.out.vR.f0
  have g3 := R9.out.vR.f1
  go_wp2_with fail
  refine bodyPost_ret (v := .agg #[.int .i64 1, .int .i64 0]) (by simp [results, Tryd.results8, go_sem, *]) rfl ⟨rfl, R9.out.done _ _⟩

set_option maxRecDepth 100000 in
set_option maxHeartbeats 8000000 in
theorem rrange_13 (a b c d : Int) (hab : ¬ b < a) (hcd : ¬ d < c) (w : World) : Calls Tryd.prog 8 #[.int .u8 13, .agg #[.int .i64 a, .int .i64 b], .agg #[.int .i64 c, .int .i64 d]] w (Gives w (rangeV 13 a b c d)) := by
  have HA : Hid (¬ b < a) := hab
  have HC : Hid (¬ d < c) := hcd
  have ea : decide (b < a) = false := by simpa using hab
  have eb : decide (d < c) = false := by simpa using hcd
  have eu : unaryB 13 = false := rfl
  clear hab hcd
  have huv : rangeV 13 a b c d = .agg #[.int .i64 (rLo 13 a b c d), .int .i64 (rHi 13 a b c d)] := range_eq _ _ _ _ _
  generalize rLo 13 a b c d = u at huv
  generalize rHi 13 a b c d = v at huv
  have HU := Lib.hid huv
  rw [huv]
  clear huv
  cases z1 : (c == 0)
  all_goals cases z2 : (d == 0)
  all_goals
   have R0 := Lib.hid (FBox.start w a b c d)
   go_enter Tryd.func8, Tryd.ntmps8
   go_wp2_with fail
   refine (rempty_any _ _ _).mono ?_; rw [ea]; rintro e w1 ⟨rfl, hb⟩
   have R1 := Lib.hid (R0.out.below hb)
   clear hb
   obtain ⟨k0, k1, k2, k3, _, _⟩ := R1.out
   go_wp2_with fail
   refine (runary_any _ _).mono ?_; rw [eu]; rintro e w2 ⟨rfl, hb⟩
   have R2 := Lib.hid (R1.out.below hb)
   clear hb k0 k1 k2 k3
   obtain ⟨k0, k1, k2, k3, _, _⟩ := R2.out
   go_wp2_with fail
   refine (rempty_any _ _ _).mono ?_; rw [eb]; rintro e w3 ⟨rfl, hb⟩
   have R3 := Lib.hid (R2.out.below hb)
   clear hb k0 k1 k2 k3
   obtain ⟨k0, k1, k2, k3, _, _⟩ := R3.out
   clear R0 R1 R2
   go_wp2_with fail
   refine (rbits_any 13 _ _ _ _ (by omega) (by omega) (by have := HA.out; omega) (by have := HC.out; omega) _).mono ?_; rw [HU.out]; rintro e w4 ⟨rfl, hb⟩
   have R9 := Lib.hid (R3.out.below hb)
   clear hb k0 k1 k2 k3
   have g0 := R9.out.vR.c0
   have g1 := R9.out.vR.c1
   have g2 := R9.out.vR.f0
   have g3 := R9.out.vR.f1
   go_wp2_with fail
   refine bodyPost_ret (v := .agg #[.int .i64 u, .int .i64 v]) (by simp [results, Tryd.results8, go_sem, *]) rfl ⟨rfl, R9.out.done _ _⟩

set_option maxRecDepth 100000 in
set_option maxHeartbeats 8000000 in
theorem rrange_14 (a b c d : Int) (hab : ¬ b < a) (hcd : ¬ d < c) (w : World) : Calls Tryd.prog 8 #[.int .u8 14, .agg #[.int .i64 a, .int .i64 b], .agg #[.int .i64 c, .int .i64 d]] w (Gives w (rangeV 14 a b c d)) := by
  have HA : Hid (¬ b < a) := hab
  have HC : Hid (¬ d < c) := hcd
  have ea : decide (b < a) = false := by simpa using hab
  have eb : decide (d < c) = false := by simpa using hcd
  have eu : unaryB 14 = false := rfl
  clear hab hcd
  have huv : rangeV 14 a b c d = .agg #[.int .i64 (rLo 14 a b c d), .int .i64 (rHi 14 a b c d)] := range_eq _ _ _ _ _
  generalize rLo 14 a b c d = u at huv
  generalize rHi 14 a b c d = v at huv
  have HU := Lib.hid huv
  rw [huv]
  clear huv
  cases z1 : (c == 0)
  all_goals cases z2 : (d == 0)
  all_goals
   have R0 := Lib.hid (FBox.start w a b c d)
   go_enter Tryd.func8, Tryd.ntmps8
   go_wp2_with fail
   refine (rempty_any _ _ _).mono ?_; rw [ea]; rintro e w1 ⟨rfl, hb⟩
   have R1 := Lib.hid (R0.out.below hb)
   clear hb
   obtain ⟨k0, k1, k2, k3, _, _⟩ := R1.out
   go_wp2_with fail
   refine (runary_any _ _).mono ?_; rw [eu]; rintro e w2 ⟨rfl, hb⟩
   have R2 := Lib.hid (R1.out.below hb)
   clear hb k0 k1 k2 k3
   obtain ⟨k0, k1, k2, k3, _, _⟩ := R2.out
   go_wp2_with fail
   refine (rempty_any _ _ _).mono ?_; rw [eb]; rintro e w3 ⟨rfl, hb⟩
   have R3 := Lib.hid (R2.out.below hb)
   clear hb k0 k1 k2 k3
   obtain ⟨k0, k1, k2, k3, _, _⟩ := R3.out
   clear R0 R1 R2
   go_wp2_with fail
   refine (rbits_any 14 _ _ _ _ (by omega) (by omega) (by have := HA.out; omega) (by have := HC.out; omega) _).mono ?_; rw [HU.out]; rintro e w4 ⟨rfl, hb⟩
   have R9 := Lib.hid (R3.out.below hb)
   clear hb k0 k1 k2 k3
   have g0 := R9.out.vR.c0
   have g1 := R9.out.vR.c1
   have g2 := R9.out.vR.f0
   have g3 := R9.out.vR.f1
   go_wp2_with fail
   refine bodyPost_ret (v := .agg #[.int .i64 u, .int .i64 v]) (by simp [results, Tryd.results8, go_sem, *]) rfl ⟨rfl, R9.out.done _ _⟩

set_option maxRecDepth 100000 in
set_option maxHeartbeats 8000000 in
theorem rrange_15 (a b c d : Int) (hab : ¬ b < a) (hcd : ¬ d < c) (w : World) : Calls Tryd.prog 8 #[.int .u8 15, .agg #[.int .i64 a, .int .i64 b], .agg #[.int .i64 c, .int .i64 d]] w (Gives w (rangeV 15 a b c d)) := by
  have HA : Hid (¬ b < a) := hab
  have HC : Hid (¬ d < c) := hcd
  have ea : decide (b < a) = false := by simpa using hab
  have eb : decide (d < c) = false := by simpa using hcd
  have eu : unaryB 15 = false := rfl
  clear hab hcd
  have huv : rangeV 15 a b c d = .agg #[.int .i64 (rLo 15 a b c d), .int .i64 (rHi 15 a b c d)] := range_eq _ _ _ _ _
  generalize rLo 15 a b c d = u at huv
  generalize rHi 15 a b c d = v at huv
  have HU := Lib.hid huv
  rw [huv]
  clear huv
  cases z1 : (c == 0)
  all_goals cases z2 : (d == 0)
  all_goals
   have R0 := Lib.hid (FBox.start w a b c d)
   go_enter Tryd.func8, Tryd.ntmps8
   go_wp2_with fail
   refine (rempty_any _ _ _).mono ?_; rw [ea]; rintro e w1 ⟨rfl, hb⟩
   have R1 := Lib.hid (R0.out.below hb)
   clear hb
   obtain ⟨k0, k1, k2, k3, _, _⟩ := R1.out
   go_wp2_with fail
   refine (runary_any _ _).mono ?_; rw [eu]; rintro e w2 ⟨rfl, hb⟩
   have R2 := Lib.hid (R1.out.below hb)
   clear hb k0 k1 k2 k3
   obtain ⟨k0, k1, k2, k3, _, _⟩ := R2.out
   go_wp2_with fail
   refine (rempty_any _ _ _).mono ?_; rw [eb]; rintro e w3 ⟨rfl, hb⟩
   have R3 := Lib.hid (R2.out.below hb)
   clear hb k0 k1 k2 k3
   obtain ⟨k0, k1, k2, k3, _, _⟩ := R3.out
   clear R0 R1 R2
   go_wp2_with fail
   refine (rbits_any 15 _ _ _ _ (by omega) (by omega) (by have := HA.out; omega) (by have := HC.out; omega) _).mono ?_; rw [HU.out]; rintro e w4 ⟨rfl, hb⟩
   have R9 := Lib.hid (R3.out.below hb)
   clear hb k0 k1 k2 k3
   have g0 := R9.out.vR.c0
   have g1 := R9.out.vR.c1
   have g2 := R9.out.vR.f0
   have g3 := R9.out.vR.f1
   go_wp2_with fail
   refine bodyPost_ret (v := .agg #[.int .i64 u, .int .i64 v]) (by simp [results, Tryd.results8, go_sem, *]) rfl ⟨rfl, R9.out.done _ _⟩

set_option maxRecDepth 100000 in
set_option maxHeartbeats 8000000 in
theorem rrange_none (a b c d : Int) (op : Int) (h : op = 0 ∨ 19 ≤ op) (hab : ¬ b < a) (hcd : ¬ d < c) (w : World) : Calls Tryd.prog 8 #[.int .u8 op, .agg #[.int .i64 a, .int .i64 b], .agg #[.int .i64 c, .int .i64 d]] w (Gives w (.agg #[.int .i64 1, .int .i64 0])) := by
  have ea : decide (b < a) = false := by simpa using hab
  have eb : decide (d < c) = false := by simpa using hcd
  have eu : unaryB op = false := decide_eq_false (by omega)
  clear hab hcd
  have t1 : (op == 1) = false := beq_eq_false_iff_ne.2 (by omega)
  have t2 : (op == 2) = false := beq_eq_false_iff_ne.2 (by omega)
  have t3 : (op == 3) = false := beq_eq_false_iff_ne.2 (by omega)
  have t4 : (op == 4) = false := beq_eq_false_iff_ne.2 (by omega)
  have t5 : (op == 5) = false := beq_eq_false_iff_ne.2 (by omega)
  have t6 : (op == 6) = false := beq_eq_false_iff_ne.2 (by omega)
  have t7 : (op == 7) = false := beq_eq_false_iff_ne.2 (by omega)
  have t8 : (op == 8) = false := beq_eq_false_iff_ne.2 (by omega)
  have t9 : (op == 9) = false := beq_eq_false_iff_ne.2 (by omega)
  have t10 : (op == 10) = false := beq_eq_false_iff_ne.2 (by omega)
  have t11 : (op == 11) = false := beq_eq_false_iff_ne.2 (by omega)
  have t12 : (op == 12) = false := beq_eq_false_iff_ne.2 (by omega)
  have t13 : (op == 13) = false := beq_eq_false_iff_ne.2 (by omega)
  have t14 : (op == 14) = false := beq_eq_false_iff_ne.2 (by omega)
  have t15 : (op == 15) = false := beq_eq_false_iff_ne.2 (by omega)
  have t16 : (op == 16) = false := beq_eq_false_iff_ne.2 (by omega)
  have t17 : (op == 17) = false := beq_eq_false_iff_ne.2 (by omega)
  have t18 : (op == 18) = false := beq_eq_false_iff_ne.2 (by omega)
  have HO := Lib.hid h
  clear h
  cases z1 : (c == 0)
  all_goals cases z2 : (d == 0)
  all_goals
   have R0 := Lib.hid (FBox.start w a b c d)
   go_enter Tryd.func8, Tryd.ntmps8
   go_wp2_with fail
   refine (rempty_any _ _ _).mono ?_; rw [ea]; rintro e w1 ⟨rfl, hb⟩
   have R1 := Lib.hid (R0.out.below hb)
   clear hb
   obtain ⟨k0, k1, k2, k3, _, _⟩ := R1.out
   go_wp2_with fail
   refine (runary_any _ _).mono ?_; rw [eu]; rintro e w2 ⟨rfl, hb⟩
   have R2 := Lib.hid (R1.out.below hb)
   clear hb k0 k1 k2 k3
   obtain ⟨k0, k1, k2, k3, _, _⟩ := R2.out
   go_wp2_with fail
   refine (rempty_any _ _ _).mono ?_; rw [eb]; rintro e w3 ⟨rfl, hb⟩
   have R3 := Lib.hid (R2.out.below hb)
   clear hb k0 k1 k2 k3
   obtain ⟨k0, k1, k2, k3, _, _⟩ := R3.out
   clear R0 R1 R2
   go_wp2_with fail
   refine (rnone_lit _).mono ?_; rintro e w4 ⟨rfl, hb⟩
   have R9 := Lib.hid (R3.out.below hb)
   clear hb k0 k1 k2 k3
   have g0 := R9.out.vR.c0
   have g1 := R9.out.vR.c1
   have g2 := R9.out.vR.f0
   have g3 := R9.out.vR.f1
   go_wp2_with fail
   refine bodyPost_ret (v := .agg #[.int .i64 1, .int .i64 0]) (by simp [results, Tryd.results8, go_sem, *]) rfl ⟨rfl, R9.out.done _ _⟩

set_option maxRecDepth 100000 in
set_option maxHeartbeats 8000000 in
theorem rrange_empty1 (a b c d : Int) (op : Int) (hab : b < a) (w : World) : Calls Tryd.prog 8 #[.int .u8 op, .agg #[.int .i64 a, .int .i64 b], .agg #[.int .i64 c, .int .i64 d]] w (Gives w (.agg #[.int .i64 1, .int .i64 0])) := by
  have ea : decide (b < a) = true := by simpa using hab
  clear hab
  have R0 := Lib.hid (FBox.start w a b c d)
  go_enter Tryd.func8, Tryd.ntmps8
  go_wp2_with fail
  refine (rempty_any _ _ _).mono ?_; rw [ea]; rintro e w1 ⟨rfl, hb⟩
  have R1 := Lib.hid (R0.out.below hb)
  clear hb
  obtain ⟨k0, k1, k2, k3, _, _⟩ := R1.out
  go_wp2_with fail
  refine (rnone_lit _).mono ?_; rintro e w4 ⟨rfl, hb⟩
  have R9 := Lib.hid (R1.out.below hb)
  clear hb k0 k1 k2 k3
  have g0 := R9.out.vR.c0
  have g1 := R9.out.vR.c1
  have g2 := R9.out.vR.f0
  have g3 := R9.out.vR.f1
  go_wp2_with fail
  refine bodyPost_ret (v := .agg #[.int .i64 1, .int .i64 0]) (by simp [results, Tryd.results8, go_sem, *]) rfl ⟨rfl, R9.out.done _ _⟩

set_option maxRecDepth 100000 in
set_option maxHeartbeats 8000000 in
theorem rrange_empty2 (a b c d : Int) (op : Int) (hab : ¬ b < a) (hcd : d < c) (eu : unaryB op = false) (w : World) : Calls Tryd.prog 8 #[.int .u8 op, .agg #[.int .i64 a, .int .i64 b], .agg #[.int .i64 c, .int .i64 d]] w (Gives w (.agg #[.int .i64 1, .int .i64 0])) := by
  have ea : decide (b < a) = false := by simpa using hab
  have eb : decide (d < c) = true := by simpa using hcd
  clear hab hcd
  have R0 := Lib.hid (FBox.start w a b c d)
  go_enter Tryd.func8, Tryd.ntmps8
  go_wp2_with fail
  refine (rempty_any _ _ _).mono ?_; rw [ea]; rintro e w1 ⟨rfl, hb⟩
  have R1 := Lib.hid (R0.out.below hb)
  clear hb
  obtain ⟨k0, k1, k2, k3, _, _⟩ := R1.out
  go_wp2_with fail
  refine (runary_any _ _).mono ?_; rw [eu]; rintro e w2 ⟨rfl, hb⟩
  have R2 := Lib.hid (R1.out.below hb)
  clear hb k0 k1 k2 k3
  obtain ⟨k0, k1, k2, k3, _, _⟩ := R2.out
  go_wp2_with fail
  refine (rempty_any _ _ _).mono ?_; rw [eb]; rintro e w3 ⟨rfl, hb⟩
  have R3 := Lib.hid (R2.out.below hb)
  clear hb k0 k1 k2 k3
  obtain ⟨k0, k1, k2, k3, _, _⟩ := R3.out
  go_wp2_with fail
  refine (rnone_lit _).mono ?_; rintro e w4 ⟨rfl, hb⟩
  have R9 := Lib.hid (R3.out.below hb)
  clear hb k0 k1 k2 k3
  have g0 := R9.out.vR.c0
  have g1 := R9.out.vR.c1
  have g2 := R9.out.vR.f0
  have g3 := R9.out.vR.f1
  go_wp2_with fail
  refine bodyPost_ret (v := .agg #[.int .i64 1, .int .i64 0]) (by simp [results, Tryd.results8, go_sem, *]) rfl ⟨rfl, R9.out.done _ _⟩

end Go.Proofs.YtdbfaekdkjclcaaDoor
