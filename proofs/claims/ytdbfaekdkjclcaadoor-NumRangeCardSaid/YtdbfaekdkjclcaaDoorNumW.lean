
/-
  THE OPERATORS OF PACKAGE num: what each function answers; 'find' hands out the function of an operator; 'Wrap' calls it.
-/
import Derived.Test.YtdbfaekdkjclcaaDoorNumM
import Derived.Lib.Hide
namespace Go.Proofs.YtdbfaekdkjclcaaDoor
open Go Go.RowKit

/-- A sum, a difference, a product, as the machine works it out, does not go round. -/
def mulFits (a b : Int) : Bool := b == 0 || (wrap64 ((wrap64 (a * b)).tdiv b) == a && !(a == -9223372036854775808 && b == -1))
def addFits (a b : Int) : Bool := decide (a < wrap64 (a + b)) == decide (0 < b)
def subFits (a b : Int) : Bool := decide (wrap64 (a - b) < a) == decide (0 < b)
def divFits (a b : Int) : Bool := !(a == -9223372036854775808 && b == -1)
def modV (a b : Int) : Int := if ¬ a.tmod b = 0 ∧ ¬ (a.tmod b < 0 ↔ b < 0) then wrap64 (a.tmod b + b) else a.tmod b
def tv (b : Bool) : Int := if b then 1 else 0
def absV (a : Int) : Int := if 0 ≤ a then a else wrap64 (0 - a)
def absFits (a : Int) : Bool := if 0 ≤ a then true else subFits 0 a

theorem sum_any (a b : Int) (w : World) : Calls Tryd.prog 72 #[.int .i64 a, .int .i64 b] w (Gives w (.tuple #[.int .i64 (wrap64 (a + b)), .bool (addFits a b)])) := by
  go_enter Tryd.func72, Tryd.ntmps72
  go_wp2
  all_goals go_returns
  all_goals exact ⟨by simp_all [addFits], by (repeat' (first | (with_reducible exact Below.refl _ _) | (with_reducible assumption) | (with_reducible refine boxed ?_ _) | (with_reducible refine Below.drew ?_) | (with_reducible refine after ?_ (by assumption))))⟩

theorem difference_any (a b : Int) (w : World) : Calls Tryd.prog 68 #[.int .i64 a, .int .i64 b] w (Gives w (.tuple #[.int .i64 (wrap64 (a - b)), .bool (subFits a b)])) := by
  go_enter Tryd.func68, Tryd.ntmps68
  go_wp2
  all_goals go_returns
  all_goals exact ⟨by simp_all [subFits], by (repeat' (first | (with_reducible exact Below.refl _ _) | (with_reducible assumption) | (with_reducible refine boxed ?_ _) | (with_reducible refine Below.drew ?_) | (with_reducible refine after ?_ (by assumption))))⟩

theorem product_any (a b : Int) (w : World) : Calls Tryd.prog 73 #[.int .i64 a, .int .i64 b] w (Gives w (.tuple #[.int .i64 (wrap64 (a * b)), .bool (mulFits a b)])) := by
  by_cases hb : b = 0
  · subst hb
    have h0 : wrap64 0 = 0 := by unfold wrap64; decide
    go_enter Tryd.func73, Tryd.ntmps73
    go_wp2
    all_goals go_returns
    all_goals exact ⟨by simp [mulFits, h0], by (repeat' (first | (with_reducible exact Below.refl _ _) | (with_reducible assumption) | (with_reducible refine boxed ?_ _) | (with_reducible refine Below.drew ?_) | (with_reducible refine after ?_ (by assumption))))⟩
  · go_enter Tryd.func73, Tryd.ntmps73
    go_wp2
    all_goals go_returns
    all_goals exact ⟨by simp_all [mulFits], by (repeat' (first | (with_reducible exact Below.refl _ _) | (with_reducible assumption) | (with_reducible refine boxed ?_ _) | (with_reducible refine Below.drew ?_) | (with_reducible refine after ?_ (by assumption))))⟩

theorem quotient_any (a b : Int) (hb : ¬ b = 0) (w : World) : Calls Tryd.prog 74 #[.int .i64 a, .int .i64 b] w (Gives w (.tuple #[.int .i64 (wrap64 (a.tdiv b)), .bool (divFits a b)])) := by
  go_enter Tryd.func74, Tryd.ntmps74
  go_wp2
  all_goals go_returns
  all_goals exact ⟨by simp_all [divFits], by (repeat' (first | (with_reducible exact Below.refl _ _) | (with_reducible assumption) | (with_reducible refine boxed ?_ _) | (with_reducible refine Below.drew ?_) | (with_reducible refine after ?_ (by assumption))))⟩

theorem remainder_any (a b : Int) (hb : ¬ b = 0) (w : World) : Calls Tryd.prog 75 #[.int .i64 a, .int .i64 b] w (Gives w (.tuple #[.int .i64 (a.tmod b), .bool (true)])) := by
  go_enter Tryd.func75, Tryd.ntmps75
  go_wp2
  all_goals go_returns
  all_goals exact ⟨by simp_all [], by (repeat' (first | (with_reducible exact Below.refl _ _) | (with_reducible assumption) | (with_reducible refine boxed ?_ _) | (with_reducible refine Below.drew ?_) | (with_reducible refine after ?_ (by assumption))))⟩

theorem modulus_any (a b : Int) (hb : ¬ b = 0) (w : World) : Calls Tryd.prog 76 #[.int .i64 a, .int .i64 b] w (Gives w (.tuple #[.int .i64 (modV a b), .bool true])) := by
  by_cases h1 : a.tmod b = 0
  · go_enter Tryd.func76, Tryd.ntmps76
    go_wp2
    all_goals go_returns
    all_goals exact ⟨by simp_all [modV], by (repeat' (first | (with_reducible exact Below.refl _ _) | (with_reducible assumption) | (with_reducible refine boxed ?_ _) | (with_reducible refine Below.drew ?_) | (with_reducible refine after ?_ (by assumption))))⟩
  · by_cases h2 : a.tmod b < 0
    all_goals by_cases h3 : b < 0
    all_goals
      go_enter Tryd.func76, Tryd.ntmps76
      go_wp2
      all_goals go_returns
    all_goals refine ⟨?_, by (repeat' (first | (with_reducible exact Below.refl _ _) | (with_reducible assumption) | (with_reducible refine boxed ?_ _) | (with_reducible refine Below.drew ?_) | (with_reducible refine after ?_ (by assumption))))⟩
    all_goals
      unfold modV
      first | (rw [if_pos (by omega)]; rfl) | (rw [if_neg (by omega)]; rfl)

theorem truth_any (v : Bool) (w : World) : Calls Tryd.prog 58 #[.bool v] w (Gives w (.int .i64 (tv v))) := by
  by_cases h : v = true
  all_goals
    try simp at h
    go_enter Tryd.func58, Tryd.ntmps58
    go_wp2
    all_goals go_returns
    all_goals exact ⟨by simp_all [tv], by (repeat' (first | (with_reducible exact Below.refl _ _) | (with_reducible assumption) | (with_reducible refine boxed ?_ _) | (with_reducible refine Below.drew ?_) | (with_reducible refine after ?_ (by assumption))))⟩

theorem relation1_any (a b : Int) (w : World) : Calls Tryd.prog 57 #[.int .i64 a, .int .i64 b] w (Gives w (.tuple #[.int .i64 (tv (a == b)), .bool true])) := by
  go_enter Tryd.func57, Tryd.ntmps57
  go_wp2_with (go_at_call 58; refine (truth_any _ _).mono ?_; rintro e w' ⟨rfl, hb⟩)
  go_returns
  exact ⟨by simp, by (repeat' (first | (with_reducible exact Below.refl _ _) | (with_reducible assumption) | (with_reducible refine boxed ?_ _) | (with_reducible refine Below.drew ?_) | (with_reducible refine after ?_ (by assumption))))⟩

theorem relation2_any (a b : Int) (w : World) : Calls Tryd.prog 59 #[.int .i64 a, .int .i64 b] w (Gives w (.tuple #[.int .i64 (tv (!(a == b))), .bool true])) := by
  go_enter Tryd.func59, Tryd.ntmps59
  go_wp2_with (go_at_call 58; refine (truth_any _ _).mono ?_; rintro e w' ⟨rfl, hb⟩)
  go_returns
  exact ⟨by simp [bne], by (repeat' (first | (with_reducible exact Below.refl _ _) | (with_reducible assumption) | (with_reducible refine boxed ?_ _) | (with_reducible refine Below.drew ?_) | (with_reducible refine after ?_ (by assumption))))⟩

theorem relation3_any (a b : Int) (w : World) : Calls Tryd.prog 60 #[.int .i64 a, .int .i64 b] w (Gives w (.tuple #[.int .i64 (tv (decide (a < b))), .bool true])) := by
  go_enter Tryd.func60, Tryd.ntmps60
  go_wp2_with (go_at_call 58; refine (truth_any _ _).mono ?_; rintro e w' ⟨rfl, hb⟩)
  go_returns
  exact ⟨by simp, by (repeat' (first | (with_reducible exact Below.refl _ _) | (with_reducible assumption) | (with_reducible refine boxed ?_ _) | (with_reducible refine Below.drew ?_) | (with_reducible refine after ?_ (by assumption))))⟩

theorem relation4_any (a b : Int) (w : World) : Calls Tryd.prog 61 #[.int .i64 a, .int .i64 b] w (Gives w (.tuple #[.int .i64 (tv (decide (a ≤ b))), .bool true])) := by
  go_enter Tryd.func61, Tryd.ntmps61
  go_wp2_with (go_at_call 58; refine (truth_any _ _).mono ?_; rintro e w' ⟨rfl, hb⟩)
  go_returns
  exact ⟨by simp, by (repeat' (first | (with_reducible exact Below.refl _ _) | (with_reducible assumption) | (with_reducible refine boxed ?_ _) | (with_reducible refine Below.drew ?_) | (with_reducible refine after ?_ (by assumption))))⟩

theorem relation5_any (a b : Int) (w : World) : Calls Tryd.prog 62 #[.int .i64 a, .int .i64 b] w (Gives w (.tuple #[.int .i64 (tv (decide (b < a))), .bool true])) := by
  go_enter Tryd.func62, Tryd.ntmps62
  go_wp2_with (go_at_call 58; refine (truth_any _ _).mono ?_; rintro e w' ⟨rfl, hb⟩)
  go_returns
  exact ⟨by simp, by (repeat' (first | (with_reducible exact Below.refl _ _) | (with_reducible assumption) | (with_reducible refine boxed ?_ _) | (with_reducible refine Below.drew ?_) | (with_reducible refine after ?_ (by assumption))))⟩

theorem relation6_any (a b : Int) (w : World) : Calls Tryd.prog 63 #[.int .i64 a, .int .i64 b] w (Gives w (.tuple #[.int .i64 (tv (decide (b ≤ a))), .bool true])) := by
  go_enter Tryd.func63, Tryd.ntmps63
  go_wp2_with (go_at_call 58; refine (truth_any _ _).mono ?_; rintro e w' ⟨rfl, hb⟩)
  go_returns
  exact ⟨by simp, by (repeat' (first | (with_reducible exact Below.refl _ _) | (with_reducible assumption) | (with_reducible refine boxed ?_ _) | (with_reducible refine Below.drew ?_) | (with_reducible refine after ?_ (by assumption))))⟩

theorem bitwise1_any (a b : Int) (w : World) : Calls Tryd.prog 64 #[.int .i64 a, .int .i64 b] w (Gives w (.tuple #[.int .i64 (bits .and .i64 a b), .bool true])) := by
  go_enter Tryd.func64, Tryd.ntmps64
  go_wp2
  go_returns
  exact ⟨by simp, by (repeat' (first | (with_reducible exact Below.refl _ _) | (with_reducible assumption) | (with_reducible refine boxed ?_ _) | (with_reducible refine Below.drew ?_) | (with_reducible refine after ?_ (by assumption))))⟩

theorem bitwise2_any (a b : Int) (w : World) : Calls Tryd.prog 65 #[.int .i64 a, .int .i64 b] w (Gives w (.tuple #[.int .i64 (bits .or .i64 a b), .bool true])) := by
  go_enter Tryd.func65, Tryd.ntmps65
  go_wp2
  go_returns
  exact ⟨by simp, by (repeat' (first | (with_reducible exact Below.refl _ _) | (with_reducible assumption) | (with_reducible refine boxed ?_ _) | (with_reducible refine Below.drew ?_) | (with_reducible refine after ?_ (by assumption))))⟩

theorem bitwise3_any (a b : Int) (w : World) : Calls Tryd.prog 66 #[.int .i64 a, .int .i64 b] w (Gives w (.tuple #[.int .i64 (bits .xor .i64 a b), .bool true])) := by
  go_enter Tryd.func66, Tryd.ntmps66
  go_wp2
  go_returns
  exact ⟨by simp, by (repeat' (first | (with_reducible exact Below.refl _ _) | (with_reducible assumption) | (with_reducible refine boxed ?_ _) | (with_reducible refine Below.drew ?_) | (with_reducible refine after ?_ (by assumption))))⟩

theorem absolute_any (a : Int) (w : World) : Calls Tryd.prog 70 #[.int .i64 a] w (Gives w (.tuple #[.int .i64 (absV a), .bool (absFits a)])) := by
  by_cases h : 0 ≤ a
  all_goals
    go_enter Tryd.func70, Tryd.ntmps70
    go_wp2_with (go_at_call 68; refine (difference_any _ _ _).mono ?_; rintro e w' ⟨rfl, hb⟩)
    all_goals go_returns
    all_goals exact ⟨by first | (simp [absV, absFits, h]; done) | (simp [absV, absFits, show ¬ 0 ≤ a by omega]), by (repeat' (first | (with_reducible exact Below.refl _ _) | (with_reducible assumption) | (with_reducible refine boxed ?_ _) | (with_reducible refine Below.drew ?_) | (with_reducible refine after ?_ (by assumption))))⟩
theorem single1_any (a b : Int) (w : World) : Calls Tryd.prog 67 #[.int .i64 a, .int .i64 b] w (Gives w (.tuple #[.int .i64 (wrap64 (0 - a)), .bool (subFits 0 a)])) := by
  go_enter Tryd.func67, Tryd.ntmps67
  go_wp2_with (go_at_call 68; refine (difference_any _ _ _).mono ?_; rintro e w' ⟨rfl, hb⟩)
  go_returns
  exact ⟨by simp, by (repeat' (first | (with_reducible exact Below.refl _ _) | (with_reducible assumption) | (with_reducible refine boxed ?_ _) | (with_reducible refine Below.drew ?_) | (with_reducible refine after ?_ (by assumption))))⟩
theorem single2_any (a b : Int) (w : World) : Calls Tryd.prog 69 #[.int .i64 a, .int .i64 b] w (Gives w (.tuple #[.int .i64 (absV a), .bool (absFits a)])) := by
  go_enter Tryd.func69, Tryd.ntmps69
  go_wp2_with (go_at_call 70; refine (absolute_any _ _).mono ?_; rintro e w' ⟨rfl, hb⟩)
  go_returns
  exact ⟨by simp, by (repeat' (first | (with_reducible exact Below.refl _ _) | (with_reducible assumption) | (with_reducible refine boxed ?_ _) | (with_reducible refine Below.drew ?_) | (with_reducible refine after ?_ (by assumption))))⟩
theorem single3_any (a b : Int) (w : World) : Calls Tryd.prog 71 #[.int .i64 a, .int .i64 b] w (Gives w (.tuple #[.int .i64 (wrap64 (1 - a)), .bool (subFits 1 a)])) := by
  go_enter Tryd.func71, Tryd.ntmps71
  go_wp2_with (go_at_call 68; refine (difference_any _ _ _).mono ?_; rintro e w' ⟨rfl, hb⟩)
  go_returns
  exact ⟨by simp, by (repeat' (first | (with_reducible exact Below.refl _ _) | (with_reducible assumption) | (with_reducible refine boxed ?_ _) | (with_reducible refine Below.drew ?_) | (with_reducible refine after ?_ (by assumption))))⟩

end Go.Proofs.YtdbfaekdkjclcaaDoor
