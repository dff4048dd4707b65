
/-
  'In', 'takes' and 'Apply' of package num; 'In', 'Wrap' and 'Apply' of ceilingref01: both answer the same.
-/
import Derived.Test.YtdbfaekdkjclcaaDoorNumX
namespace Go.Proofs.YtdbfaekdkjclcaaDoor
open Go Go.RowKit

def inBase (v : Int) : Bool := decide (-2147483648 ≤ v ∧ v ≤ 2147483647)

theorem in_any (v : Int) (w : World) : Calls Tryd.prog 41 #[.int .i64 v] w (Gives w (.bool (inBase v))) := by
  by_cases h1 : -2147483648 ≤ v
  all_goals by_cases h2 : v ≤ 2147483647
  all_goals
    go_enter Tryd.func41, Tryd.ntmps41
    go_wp2
    all_goals go_returns
  all_goals exact ⟨by first | (rw [inBase, decide_eq_true (by omega)]; rfl) | (rw [inBase, decide_eq_false (by omega)]; rfl), by (repeat' (first | (with_reducible exact Below.refl _ _) | (with_reducible assumption) | (with_reducible refine boxed ?_ _) | (with_reducible refine Below.drew ?_) | (with_reducible refine after ?_ (by assumption))))⟩

def logicB (op : Int) : Bool := decide (13 ≤ op ∧ op ≤ 15 ∨ op = 18)
def unaryB (op : Int) : Bool := decide (16 ≤ op ∧ op ≤ 18)

theorem unary_any (op : Int) (w : World) : Calls Tryd.prog 19 #[.int .u8 op] w (Gives w (.bool (unaryB op))) := by
  by_cases h1 : 16 ≤ op
  all_goals by_cases h2 : op ≤ 18
  all_goals
    go_enter Tryd.func19, Tryd.ntmps19
    go_wp2
    all_goals go_returns
  all_goals exact ⟨by first | (rw [unaryB, decide_eq_true (by omega)]; rfl) | (rw [unaryB, decide_eq_false (by omega)]; rfl), by (repeat' (first | (with_reducible exact Below.refl _ _) | (with_reducible assumption) | (with_reducible refine boxed ?_ _) | (with_reducible refine Below.drew ?_) | (with_reducible refine after ?_ (by assumption))))⟩

theorem runary_any (op : Int) (w : World) : Calls Tryd.prog 27 #[.int .u8 op] w (Gives w (.bool (unaryB op))) := by
  by_cases h : op = 16 ∨ op = 17 ∨ op = 18
  · rcases h with rfl | rfl | rfl
    all_goals
      go_enter Tryd.func27, Tryd.ntmps27
      go_wp2
      all_goals go_returns
    all_goals exact ⟨rfl, by (repeat' (first | (with_reducible exact Below.refl _ _) | (with_reducible assumption) | (with_reducible refine boxed ?_ _) | (with_reducible refine Below.drew ?_) | (with_reducible refine after ?_ (by assumption))))⟩
  · have h1 : (op == 16) = false := by simp; omega
    have h2 : (op == 17) = false := by simp; omega
    have h3 : (op == 18) = false := by simp; omega
    have e : unaryB op = false := by rw [unaryB, decide_eq_false (by omega)]
    rw [e]
    clear e h
    go_enter Tryd.func27, Tryd.ntmps27
    go_wp2
    all_goals go_returns
    all_goals exact ⟨rfl, by (repeat' (first | (with_reducible exact Below.refl _ _) | (with_reducible assumption) | (with_reducible refine boxed ?_ _) | (with_reducible refine Below.drew ?_) | (with_reducible refine after ?_ (by assumption))))⟩

theorem logical_any (op : Int) (w : World) : Calls Tryd.prog 23 #[.int .u8 op] w (Gives w (.bool (decide (13 ≤ op ∧ op ≤ 15)))) := by
  by_cases h1 : 13 ≤ op
  all_goals by_cases h2 : op ≤ 15
  all_goals
    go_enter Tryd.func23, Tryd.ntmps23
    go_wp2
    all_goals go_returns
  all_goals exact ⟨by first | (rw [decide_eq_true (by omega)]; rfl) | (rw [decide_eq_false (by omega)]; rfl), by (repeat' (first | (with_reducible exact Below.refl _ _) | (with_reducible assumption) | (with_reducible refine boxed ?_ _) | (with_reducible refine Below.drew ?_) | (with_reducible refine after ?_ (by assumption))))⟩

theorem divides_any (op : Int) (w : World) : Calls Tryd.prog 20 #[.int .u8 op] w (Gives w (.bool (decide (4 ≤ op ∧ op ≤ 6)))) := by
  by_cases h1 : 4 ≤ op
  all_goals by_cases h2 : op ≤ 6
  all_goals
    go_enter Tryd.func20, Tryd.ntmps20
    go_wp2
    all_goals go_returns
  all_goals exact ⟨by first | (rw [decide_eq_true (by omega)]; rfl) | (rw [decide_eq_false (by omega)]; rfl), by (repeat' (first | (with_reducible exact Below.refl _ _) | (with_reducible assumption) | (with_reducible refine boxed ?_ _) | (with_reducible refine Below.drew ?_) | (with_reducible refine after ?_ (by assumption))))⟩

theorem relational_any (op : Int) (w : World) : Calls Tryd.prog 44 #[.int .u8 op] w (Gives w (.bool (decide (7 ≤ op ∧ op ≤ 12)))) := by
  by_cases h1 : 7 ≤ op
  all_goals by_cases h2 : op ≤ 12
  all_goals
    go_enter Tryd.func44, Tryd.ntmps44
    go_wp2
    all_goals go_returns
  all_goals exact ⟨by first | (rw [decide_eq_true (by omega)]; rfl) | (rw [decide_eq_false (by omega)]; rfl), by (repeat' (first | (with_reducible exact Below.refl _ _) | (with_reducible assumption) | (with_reducible refine boxed ?_ _) | (with_reducible refine Below.drew ?_) | (with_reducible refine after ?_ (by assumption))))⟩

/-- The reference's truth value of a condition. -/
theorem rtruth_any (v : Bool) (w : World) : Calls Tryd.prog 33 #[.bool v] w (Gives w (.int .i64 (tv v))) := by
  cases v
  all_goals
    go_enter Tryd.func33, Tryd.ntmps33
    go_wp2
    all_goals go_returns
    all_goals exact ⟨rfl, by (repeat' (first | (with_reducible exact Below.refl _ _) | (with_reducible assumption) | (with_reducible refine boxed ?_ _) | (with_reducible refine Below.drew ?_) | (with_reducible refine after ?_ (by assumption))))⟩

theorem rmodulus_any (a b : Int) (hb : ¬ b = 0) (w : World) : Calls Tryd.prog 78 #[.int .i64 a, .int .i64 b] w (Gives w (.int .i64 (modV a b))) := by
  by_cases h1 : a.tmod b = 0
  · go_enter Tryd.func78, Tryd.ntmps78
    go_wp2
    all_goals go_returns
    all_goals exact ⟨by simp_all [modV], by (repeat' (first | (with_reducible exact Below.refl _ _) | (with_reducible assumption) | (with_reducible refine boxed ?_ _) | (with_reducible refine Below.drew ?_) | (with_reducible refine after ?_ (by assumption))))⟩
  · by_cases h2 : a.tmod b < 0
    all_goals by_cases h3 : b < 0
    all_goals
      go_enter Tryd.func78, Tryd.ntmps78
      go_wp2
      all_goals go_returns
    all_goals refine ⟨?_, by (repeat' (first | (with_reducible exact Below.refl _ _) | (with_reducible assumption) | (with_reducible refine boxed ?_ _) | (with_reducible refine Below.drew ?_) | (with_reducible refine after ?_ (by assumption))))⟩
    all_goals
      unfold modV
      first | (rw [if_pos (by omega)]; rfl) | (rw [if_neg (by omega)]; rfl)

theorem tdiv_m1 (a : Int) : a.tdiv (-1) = -a := by simp
theorem tmod_m1 (a : Int) : a.tmod (-1) = 0 := by simp
theorem modV_m1 (a : Int) : modV a (-1) = 0 := by simp [modV]
theorem rwrap_1 (a b : Int) (w : World) : Calls Tryd.prog 55 #[.int .u8 1, .int .i64 a, .int .i64 b] w (Gives w (.tuple #[.int .i64 (opVal 1 a b), .bool true])) := by
  go_enter Tryd.func55, Tryd.ntmps55
  go_wp2
  go_returns
  exact ⟨by first | rfl | simp [opVal_1, bne], by (repeat' (first | (with_reducible exact Below.refl _ _) | (with_reducible assumption) | (with_reducible refine boxed ?_ _) | (with_reducible refine Below.drew ?_) | (with_reducible refine after ?_ (by assumption))))⟩
theorem rwrap_2 (a b : Int) (w : World) : Calls Tryd.prog 55 #[.int .u8 2, .int .i64 a, .int .i64 b] w (Gives w (.tuple #[.int .i64 (opVal 2 a b), .bool true])) := by
  go_enter Tryd.func55, Tryd.ntmps55
  go_wp2
  go_returns
  exact ⟨by first | rfl | simp [opVal_2, bne], by (repeat' (first | (with_reducible exact Below.refl _ _) | (with_reducible assumption) | (with_reducible refine boxed ?_ _) | (with_reducible refine Below.drew ?_) | (with_reducible refine after ?_ (by assumption))))⟩
theorem rwrap_3 (a b : Int) (w : World) : Calls Tryd.prog 55 #[.int .u8 3, .int .i64 a, .int .i64 b] w (Gives w (.tuple #[.int .i64 (opVal 3 a b), .bool true])) := by
  go_enter Tryd.func55, Tryd.ntmps55
  go_wp2
  go_returns
  exact ⟨by first | rfl | simp [opVal_3, bne], by (repeat' (first | (with_reducible exact Below.refl _ _) | (with_reducible assumption) | (with_reducible refine boxed ?_ _) | (with_reducible refine Below.drew ?_) | (with_reducible refine after ?_ (by assumption))))⟩
theorem rwrap_zero_4 (a : Int) (w : World) : Calls Tryd.prog 55 #[.int .u8 4, .int .i64 a, .int .i64 0] w (Gives w (.tuple #[.int .i64 (0), .bool false])) := by
  go_enter Tryd.func55, Tryd.ntmps55
  go_wp2
  go_returns
  exact ⟨rfl, by (repeat' (first | (with_reducible exact Below.refl _ _) | (with_reducible assumption) | (with_reducible refine boxed ?_ _) | (with_reducible refine Below.drew ?_) | (with_reducible refine after ?_ (by assumption))))⟩
theorem rwrap_one_4 (a : Int) (w : World) : Calls Tryd.prog 55 #[.int .u8 4, .int .i64 a, .int .i64 (-1)] w (Gives w (.tuple #[.int .i64 (opVal 4 a (-1)), .bool true])) := by
  go_enter Tryd.func55, Tryd.ntmps55
  go_wp2
  go_returns
  exact ⟨by rw [opVal_4, tdiv_m1]; simp, by (repeat' (first | (with_reducible exact Below.refl _ _) | (with_reducible assumption) | (with_reducible refine boxed ?_ _) | (with_reducible refine Below.drew ?_) | (with_reducible refine after ?_ (by assumption))))⟩
theorem rwrap_4 (a b : Int) (hb : ¬ b = 0) (h1 : ¬ b = -1) (w : World) : Calls Tryd.prog 55 #[.int .u8 4, .int .i64 a, .int .i64 b] w (Gives w (.tuple #[.int .i64 (opVal 4 a b), .bool true])) := by
  go_enter Tryd.func55, Tryd.ntmps55
  go_wp2
  go_returns
  exact ⟨rfl, by (repeat' (first | (with_reducible exact Below.refl _ _) | (with_reducible assumption) | (with_reducible refine boxed ?_ _) | (with_reducible refine Below.drew ?_) | (with_reducible refine after ?_ (by assumption))))⟩
theorem rwrap_zero_5 (a : Int) (w : World) : Calls Tryd.prog 55 #[.int .u8 5, .int .i64 a, .int .i64 0] w (Gives w (.tuple #[.int .i64 (0), .bool false])) := by
  go_enter Tryd.func55, Tryd.ntmps55
  go_wp2
  go_returns
  exact ⟨rfl, by (repeat' (first | (with_reducible exact Below.refl _ _) | (with_reducible assumption) | (with_reducible refine boxed ?_ _) | (with_reducible refine Below.drew ?_) | (with_reducible refine after ?_ (by assumption))))⟩
theorem rwrap_one_5 (a : Int) (w : World) : Calls Tryd.prog 55 #[.int .u8 5, .int .i64 a, .int .i64 (-1)] w (Gives w (.tuple #[.int .i64 (opVal 5 a (-1)), .bool true])) := by
  go_enter Tryd.func55, Tryd.ntmps55
  go_wp2
  go_returns
  exact ⟨by rw [opVal_5, tmod_m1]; rfl, by (repeat' (first | (with_reducible exact Below.refl _ _) | (with_reducible assumption) | (with_reducible refine boxed ?_ _) | (with_reducible refine Below.drew ?_) | (with_reducible refine after ?_ (by assumption))))⟩
theorem rwrap_5 (a b : Int) (hb : ¬ b = 0) (h1 : ¬ b = -1) (w : World) : Calls Tryd.prog 55 #[.int .u8 5, .int .i64 a, .int .i64 b] w (Gives w (.tuple #[.int .i64 (opVal 5 a b), .bool true])) := by
  go_enter Tryd.func55, Tryd.ntmps55
  go_wp2
  go_returns
  exact ⟨rfl, by (repeat' (first | (with_reducible exact Below.refl _ _) | (with_reducible assumption) | (with_reducible refine boxed ?_ _) | (with_reducible refine Below.drew ?_) | (with_reducible refine after ?_ (by assumption))))⟩
theorem rwrap_zero_6 (a : Int) (w : World) : Calls Tryd.prog 55 #[.int .u8 6, .int .i64 a, .int .i64 0] w (Gives w (.tuple #[.int .i64 (0), .bool false])) := by
  go_enter Tryd.func55, Tryd.ntmps55
  go_wp2
  go_returns
  exact ⟨rfl, by (repeat' (first | (with_reducible exact Below.refl _ _) | (with_reducible assumption) | (with_reducible refine boxed ?_ _) | (with_reducible refine Below.drew ?_) | (with_reducible refine after ?_ (by assumption))))⟩
theorem rwrap_one_6 (a : Int) (w : World) : Calls Tryd.prog 55 #[.int .u8 6, .int .i64 a, .int .i64 (-1)] w (Gives w (.tuple #[.int .i64 (opVal 6 a (-1)), .bool true])) := by
  go_enter Tryd.func55, Tryd.ntmps55
  go_wp2
  go_returns
  exact ⟨by rw [opVal_6, modV_m1]; rfl, by (repeat' (first | (with_reducible exact Below.refl _ _) | (with_reducible assumption) | (with_reducible refine boxed ?_ _) | (with_reducible refine Below.drew ?_) | (with_reducible refine after ?_ (by assumption))))⟩
theorem rwrap_6 (a b : Int) (hb : ¬ b = 0) (h1 : ¬ b = -1) (w : World) : Calls Tryd.prog 55 #[.int .u8 6, .int .i64 a, .int .i64 b] w (Gives w (.tuple #[.int .i64 (opVal 6 a b), .bool true])) := by
  go_enter Tryd.func55, Tryd.ntmps55
  go_wp2_with (first | (go_at_call 33; refine (rtruth_any _ _).mono ?_; rintro e w' ⟨rfl, hw⟩) | (go_at_call 78; refine (rmodulus_any _ _ hb _).mono ?_; rintro e w' ⟨rfl, hw⟩) | go_in)
  go_returns
  exact ⟨rfl, by (repeat' (first | (with_reducible exact Below.refl _ _) | (with_reducible assumption) | (with_reducible refine boxed ?_ _) | (with_reducible refine Below.drew ?_) | (with_reducible refine after ?_ (by assumption))))⟩
theorem rwrap_7 (a b : Int) (w : World) : Calls Tryd.prog 55 #[.int .u8 7, .int .i64 a, .int .i64 b] w (Gives w (.tuple #[.int .i64 (opVal 7 a b), .bool true])) := by
  go_enter Tryd.func55, Tryd.ntmps55
  go_wp2_with (first | (go_at_call 33; refine (rtruth_any _ _).mono ?_; rintro e w' ⟨rfl, hw⟩) | (go_at_call 78; refine (rmodulus_any _ _ hb _).mono ?_; rintro e w' ⟨rfl, hw⟩) | go_in)
  go_returns
  exact ⟨by first | rfl | simp [opVal_7, bne], by (repeat' (first | (with_reducible exact Below.refl _ _) | (with_reducible assumption) | (with_reducible refine boxed ?_ _) | (with_reducible refine Below.drew ?_) | (with_reducible refine after ?_ (by assumption))))⟩
theorem rwrap_8 (a b : Int) (w : World) : Calls Tryd.prog 55 #[.int .u8 8, .int .i64 a, .int .i64 b] w (Gives w (.tuple #[.int .i64 (opVal 8 a b), .bool true])) := by
  go_enter Tryd.func55, Tryd.ntmps55
  go_wp2_with (first | (go_at_call 33; refine (rtruth_any _ _).mono ?_; rintro e w' ⟨rfl, hw⟩) | (go_at_call 78; refine (rmodulus_any _ _ hb _).mono ?_; rintro e w' ⟨rfl, hw⟩) | go_in)
  go_returns
  exact ⟨by first | rfl | simp [opVal_8, bne], by (repeat' (first | (with_reducible exact Below.refl _ _) | (with_reducible assumption) | (with_reducible refine boxed ?_ _) | (with_reducible refine Below.drew ?_) | (with_reducible refine after ?_ (by assumption))))⟩
theorem rwrap_9 (a b : Int) (w : World) : Calls Tryd.prog 55 #[.int .u8 9, .int .i64 a, .int .i64 b] w (Gives w (.tuple #[.int .i64 (opVal 9 a b), .bool true])) := by
  go_enter Tryd.func55, Tryd.ntmps55
  go_wp2_with (first | (go_at_call 33; refine (rtruth_any _ _).mono ?_; rintro e w' ⟨rfl, hw⟩) | (go_at_call 78; refine (rmodulus_any _ _ hb _).mono ?_; rintro e w' ⟨rfl, hw⟩) | go_in)
  go_returns
  exact ⟨by first | rfl | simp [opVal_9, bne], by (repeat' (first | (with_reducible exact Below.refl _ _) | (with_reducible assumption) | (with_reducible refine boxed ?_ _) | (with_reducible refine Below.drew ?_) | (with_reducible refine after ?_ (by assumption))))⟩
theorem rwrap_10 (a b : Int) (w : World) : Calls Tryd.prog 55 #[.int .u8 10, .int .i64 a, .int .i64 b] w (Gives w (.tuple #[.int .i64 (opVal 10 a b), .bool true])) := by
  go_enter Tryd.func55, Tryd.ntmps55
  go_wp2_with (first | (go_at_call 33; refine (rtruth_any _ _).mono ?_; rintro e w' ⟨rfl, hw⟩) | (go_at_call 78; refine (rmodulus_any _ _ hb _).mono ?_; rintro e w' ⟨rfl, hw⟩) | go_in)
  go_returns
  exact ⟨by first | rfl | simp [opVal_10, bne], by (repeat' (first | (with_reducible exact Below.refl _ _) | (with_reducible assumption) | (with_reducible refine boxed ?_ _) | (with_reducible refine Below.drew ?_) | (with_reducible refine after ?_ (by assumption))))⟩
theorem rwrap_11 (a b : Int) (w : World) : Calls Tryd.prog 55 #[.int .u8 11, .int .i64 a, .int .i64 b] w (Gives w (.tuple #[.int .i64 (opVal 11 a b), .bool true])) := by
  go_enter Tryd.func55, Tryd.ntmps55
  go_wp2_with (first | (go_at_call 33; refine (rtruth_any _ _).mono ?_; rintro e w' ⟨rfl, hw⟩) | (go_at_call 78; refine (rmodulus_any _ _ hb _).mono ?_; rintro e w' ⟨rfl, hw⟩) | go_in)
  go_returns
  exact ⟨by first | rfl | simp [opVal_11, bne], by (repeat' (first | (with_reducible exact Below.refl _ _) | (with_reducible assumption) | (with_reducible refine boxed ?_ _) | (with_reducible refine Below.drew ?_) | (with_reducible refine after ?_ (by assumption))))⟩
theorem rwrap_12 (a b : Int) (w : World) : Calls Tryd.prog 55 #[.int .u8 12, .int .i64 a, .int .i64 b] w (Gives w (.tuple #[.int .i64 (opVal 12 a b), .bool true])) := by
  go_enter Tryd.func55, Tryd.ntmps55
  go_wp2_with (first | (go_at_call 33; refine (rtruth_any _ _).mono ?_; rintro e w' ⟨rfl, hw⟩) | (go_at_call 78; refine (rmodulus_any _ _ hb _).mono ?_; rintro e w' ⟨rfl, hw⟩) | go_in)
  go_returns
  exact ⟨by first | rfl | simp [opVal_12, bne], by (repeat' (first | (with_reducible exact Below.refl _ _) | (with_reducible assumption) | (with_reducible refine boxed ?_ _) | (with_reducible refine Below.drew ?_) | (with_reducible refine after ?_ (by assumption))))⟩
theorem rwrap_13 (a b : Int) (w : World) : Calls Tryd.prog 55 #[.int .u8 13, .int .i64 a, .int .i64 b] w (Gives w (.tuple #[.int .i64 (opVal 13 a b), .bool true])) := by
  go_enter Tryd.func55, Tryd.ntmps55
  go_wp2
  go_returns
  exact ⟨by first | rfl | simp [opVal_13, bne], by (repeat' (first | (with_reducible exact Below.refl _ _) | (with_reducible assumption) | (with_reducible refine boxed ?_ _) | (with_reducible refine Below.drew ?_) | (with_reducible refine after ?_ (by assumption))))⟩
theorem rwrap_14 (a b : Int) (w : World) : Calls Tryd.prog 55 #[.int .u8 14, .int .i64 a, .int .i64 b] w (Gives w (.tuple #[.int .i64 (opVal 14 a b), .bool true])) := by
  go_enter Tryd.func55, Tryd.ntmps55
  go_wp2
  go_returns
  exact ⟨by first | rfl | simp [opVal_14, bne], by (repeat' (first | (with_reducible exact Below.refl _ _) | (with_reducible assumption) | (with_reducible refine boxed ?_ _) | (with_reducible refine Below.drew ?_) | (with_reducible refine after ?_ (by assumption))))⟩
theorem rwrap_15 (a b : Int) (w : World) : Calls Tryd.prog 55 #[.int .u8 15, .int .i64 a, .int .i64 b] w (Gives w (.tuple #[.int .i64 (opVal 15 a b), .bool true])) := by
  go_enter Tryd.func55, Tryd.ntmps55
  go_wp2
  go_returns
  exact ⟨by first | rfl | simp [opVal_15, bne], by (repeat' (first | (with_reducible exact Below.refl _ _) | (with_reducible assumption) | (with_reducible refine boxed ?_ _) | (with_reducible refine Below.drew ?_) | (with_reducible refine after ?_ (by assumption))))⟩
theorem rwrap_16 (a b : Int) (w : World) : Calls Tryd.prog 55 #[.int .u8 16, .int .i64 a, .int .i64 b] w (Gives w (.tuple #[.int .i64 (opVal 16 a b), .bool true])) := by
  go_enter Tryd.func55, Tryd.ntmps55
  go_wp2
  go_returns
  exact ⟨by first | rfl | simp [opVal_16], by (repeat' (first | (with_reducible exact Below.refl _ _) | (with_reducible assumption) | (with_reducible refine boxed ?_ _) | (with_reducible refine Below.drew ?_) | (with_reducible refine after ?_ (by assumption))))⟩
theorem rwrap_17 (a b : Int) (w : World) : Calls Tryd.prog 55 #[.int .u8 17, .int .i64 a, .int .i64 b] w (Gives w (.tuple #[.int .i64 (opVal 17 a b), .bool true])) := by
  by_cases h : 0 ≤ a
  all_goals
    go_enter Tryd.func55, Tryd.ntmps55
    go_wp2
    go_returns
    exact ⟨by first | (simp [opVal_17, absV, h]; done) | (simp [opVal_17, absV, show ¬ 0 ≤ a by omega]), by (repeat' (first | (with_reducible exact Below.refl _ _) | (with_reducible assumption) | (with_reducible refine boxed ?_ _) | (with_reducible refine Below.drew ?_) | (with_reducible refine after ?_ (by assumption))))⟩
theorem rwrap_18 (a b : Int) (w : World) : Calls Tryd.prog 55 #[.int .u8 18, .int .i64 a, .int .i64 b] w (Gives w (.tuple #[.int .i64 (opVal 18 a b), .bool true])) := by
  go_enter Tryd.func55, Tryd.ntmps55
  go_wp2
  go_returns
  exact ⟨by first | rfl | simp [opVal_18, bne], by (repeat' (first | (with_reducible exact Below.refl _ _) | (with_reducible assumption) | (with_reducible refine boxed ?_ _) | (with_reducible refine Below.drew ?_) | (with_reducible refine after ?_ (by assumption))))⟩
theorem rwrap_no (op a b : Int) (h : op = 0 ∨ 19 ≤ op) (w : World) : Calls Tryd.prog 55 #[.int .u8 op, .int .i64 a, .int .i64 b] w (Gives w (.tuple #[.int .i64 0, .bool false])) := by
  rcases h with rfl | h
  all_goals
    go_enter Tryd.func55, Tryd.ntmps55
    go_wp2
    all_goals go_returns
    all_goals exact ⟨rfl, by (repeat' (first | (with_reducible exact Below.refl _ _) | (with_reducible assumption) | (with_reducible refine boxed ?_ _) | (with_reducible refine Below.drew ?_) | (with_reducible refine after ?_ (by assumption))))⟩

/-- THE REFERENCE's WRAP. -/
theorem rwrap_any (op a b : Int) (h0 : 0 ≤ op) (w : World) : Calls Tryd.prog 55 #[.int .u8 op, .int .i64 a, .int .i64 b] w (Gives w (.tuple #[.int .i64 (wrapV op a b), .bool (opHas op b)])) := by
  by_cases h1 : 1 ≤ op ∧ op ≤ 18
  · by_cases hz : 4 ≤ op ∧ op ≤ 6 ∧ b = 0
    · obtain ⟨h4, h6, rfl⟩ := hz
      have e : opHas op 0 = false := by simp [opHas]; omega
      rw [wrapV, if_neg (by simp [e]), e]
      rcases (show op = 4 ∨ op = 5 ∨ op = 6 by omega) with rfl | rfl | rfl
      · exact rwrap_zero_4 a w
      · exact rwrap_zero_5 a w
      · exact rwrap_zero_6 a w
    · have e : opHas op b = true := by simp only [opHas, decide_eq_true_eq]; exact ⟨h1.1, h1.2, hz⟩
      rw [wrapV, if_pos e, e]
      by_cases hm : 4 ≤ op ∧ op ≤ 6 ∧ b = -1
      · obtain ⟨h4, h6, rfl⟩ := hm
        rcases (show op = 4 ∨ op = 5 ∨ op = 6 by omega) with rfl | rfl | rfl
        · exact rwrap_one_4 a w
        · exact rwrap_one_5 a w
        · exact rwrap_one_6 a w
      · rcases op_cases h1.1 h1.2 with rfl | rfl | rfl | rfl | rfl | rfl | rfl | rfl | rfl | rfl | rfl | rfl | rfl | rfl | rfl | rfl | rfl | rfl
        · exact rwrap_1 a b w
        · exact rwrap_2 a b w
        · exact rwrap_3 a b w
        · exact rwrap_4 a b (by omega) (by omega) w
        · exact rwrap_5 a b (by omega) (by omega) w
        · exact rwrap_6 a b (by omega) (by omega) w
        · exact rwrap_7 a b w
        · exact rwrap_8 a b w
        · exact rwrap_9 a b w
        · exact rwrap_10 a b w
        · exact rwrap_11 a b w
        · exact rwrap_12 a b w
        · exact rwrap_13 a b w
        · exact rwrap_14 a b w
        · exact rwrap_15 a b w
        · exact rwrap_16 a b w
        · exact rwrap_17 a b w
        · exact rwrap_18 a b w
  · have e : opHas op b = false := by simp [opHas]; omega
    rw [wrapV, if_neg (by simp [e]), e]
    exact rwrap_no op a b (by omega) w

end Go.Proofs.YtdbfaekdkjclcaaDoor
