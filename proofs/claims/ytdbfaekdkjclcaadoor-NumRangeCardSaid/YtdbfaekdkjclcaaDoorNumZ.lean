
/-
  'takes' and 'Apply' of package num, 'Apply' of ceilingref01: both answer the same, where the listed variables hold what the text lays.
-/
import Derived.Test.YtdbfaekdkjclcaaDoorNumY
namespace Go.Proofs.YtdbfaekdkjclcaaDoor
open Go Go.RowKit

/-- What the three variables of package num hold. -/
structure Laid (w : World) : Prop where
  size : 3 ≤ w.heap.size
  n0 : w.cell? ⟨0, 0, none⟩ = some (.int .i64 1)
  n1 : w.cell? ⟨0, 1, none⟩ = some (.int .i64 0)
  f0 : w.cell? ⟨2, 0, none⟩ = some (.int .i64 (-9223372036854775808))
  f1 : w.cell? ⟨2, 1, none⟩ = some (.int .i64 9223372036854775807)
  t0 : w.cell? ⟨1, 0, none⟩ = some (.int .i64 0)
  t1 : w.cell? ⟨1, 1, none⟩ = some (.int .i64 1)

theorem Laid.after {w a : World} (L : Laid w) (h : Below w.heap.size w a) : Laid a := by
  have hs := L.size
  have hk := h.size
  refine ⟨by omega, ?_, ?_, ?_, ?_, ?_, ?_⟩
  · rw [h.cell (by show 0 < _; omega)]; exact L.n0
  · rw [h.cell (by show 0 < _; omega)]; exact L.n1
  · rw [h.cell (by show 2 < _; omega)]; exact L.f0
  · rw [h.cell (by show 2 < _; omega)]; exact L.f1
  · rw [h.cell (by show 1 < _; omega)]; exact L.t0
  · rw [h.cell (by show 1 < _; omega)]; exact L.t1

def hasB (lo hi v : Int) : Bool := decide (lo ≤ v ∧ v ≤ hi)

theorem has_any (lo hi v : Int) (w : World) : Calls Tryd.prog 14 #[.agg #[.int .i64 lo, .int .i64 hi], .int .i64 v] w (Gives w (.bool (hasB lo hi v))) := by
  by_cases h1 : lo ≤ v
  all_goals by_cases h2 : v ≤ hi
  all_goals
    go_enter Tryd.func14, Tryd.ntmps14
    go_wp2
    all_goals go_returns
  all_goals exact ⟨by first | (rw [hasB, decide_eq_true (by omega)]; rfl) | (rw [hasB, decide_eq_false (by omega)]; rfl), by (repeat' (first | (with_reducible exact Below.refl _ _) | (with_reducible assumption) | (with_reducible refine boxed ?_ _) | (with_reducible refine Below.drew ?_) | (with_reducible refine after ?_ (by assumption))))⟩

def takesB (op v : Int) : Bool := if logicB op = true then hasB 0 1 v else inBase v

theorem takes_any (op v : Int) (w : World) (L : Laid w) : Calls Tryd.prog 79 #[.int .u8 op, .int .i64 v] w (Gives w (.bool (takesB op v))) := by
  have ht0 := L.t0
  have ht1 := L.t1
  by_cases hl : 13 ≤ op ∧ op ≤ 15
  · have e : logicB op = true := by rw [logicB, decide_eq_true (by omega)]
    have e1 : decide (13 ≤ op ∧ op ≤ 15) = true := by rw [decide_eq_true (by omega)]
    rw [takesB, if_pos e]
    clear e
    go_enter Tryd.func79, Tryd.ntmps79
    go_wp2_with (first | (go_at_call 23; refine (logical_any _ _).mono ?_; rintro e w' ⟨rfl, hw⟩; have t0' := (L.after hw).t0; have t1' := (L.after hw).t1; rw [e1]) | (go_at_call 14; refine (has_any _ _ _ _).mono ?_; rintro e w'' ⟨rfl, hw'⟩) | go_in)
    go_returns
    exact ⟨rfl, by (repeat' (first | (with_reducible exact Below.refl _ _) | (with_reducible assumption) | (with_reducible refine boxed ?_ _) | (with_reducible refine Below.drew ?_) | (with_reducible refine after ?_ (by assumption))))⟩
  · have e1 : decide (13 ≤ op ∧ op ≤ 15) = false := by rw [decide_eq_false (by omega)]
    by_cases h18 : op = 18
    · subst h18
      rw [takesB, if_pos (show logicB 18 = true from rfl)]
      go_enter Tryd.func79, Tryd.ntmps79
      go_wp2_with (first | (go_at_call 23; refine (logical_any _ _).mono ?_; rintro e w' ⟨rfl, hw⟩; have t0' := (L.after hw).t0; have t1' := (L.after hw).t1; rw [e1]) | (go_at_call 14; refine (has_any _ _ _ _).mono ?_; rintro e w'' ⟨rfl, hw'⟩) | go_in)
      go_returns
      exact ⟨rfl, by (repeat' (first | (with_reducible exact Below.refl _ _) | (with_reducible assumption) | (with_reducible refine boxed ?_ _) | (with_reducible refine Below.drew ?_) | (with_reducible refine after ?_ (by assumption))))⟩
    · have e : logicB op = false := by rw [logicB, decide_eq_false (by omega)]
      have e2 : (op == 18) = false := by simpa using h18
      rw [takesB, if_neg (by simp [e])]
      clear e
      go_enter Tryd.func79, Tryd.ntmps79
      go_wp2_with (first | (go_at_call 23; refine (logical_any _ _).mono ?_; rintro e w' ⟨rfl, hw⟩; rw [e1]) | (go_at_call 41; refine (in_any _ _).mono ?_; rintro e w'' ⟨rfl, hw'⟩) | go_in)
      go_returns
      exact ⟨rfl, by (repeat' (first | (with_reducible exact Below.refl _ _) | (with_reducible assumption) | (with_reducible refine boxed ?_ _) | (with_reducible refine Below.drew ?_) | (with_reducible refine after ?_ (by assumption))))⟩

/-- Is there a checked value, and which. -/
def applyHas (op a b : Int) : Bool := takesB op a && (unaryB op || takesB op b) && (opHas op b && inBase (wrapV op a b))
def applyV (op a b : Int) : Int := if applyHas op a b = true then wrapV op a b else 0
theorem applyV_no {op a b : Int} (h : applyHas op a b = false) : applyV op a b = 0 := by rw [applyV, if_neg (by simp [h])]
theorem applyV_yes {op a b : Int} (h : applyHas op a b = true) : applyV op a b = wrapV op a b := by rw [applyV, if_pos h]

theorem apply_any (op a b : Int) (h0 : 0 ≤ op) (w : World) (L : Laid w) : Calls Tryd.prog 56 #[.int .u8 op, .int .i64 a, .int .i64 b] w (Gives w (.tuple #[.int .i64 (applyV op a b), .bool (applyHas op a b)])) := by
  cases h1 : takesB op a
  · have e : applyHas op a b = false := by simp [applyHas, h1]
    rw [applyV_no e, e]; clear e
    go_enter Tryd.func56, Tryd.ntmps56
    go_wp2_with (first | (go_at_call 79; refine (takes_any _ _ _ L).mono ?_; rintro e w' ⟨rfl, hw⟩; rw [h1]) | (fail))
    go_returns
    exact ⟨rfl, by (repeat' (first | (with_reducible exact Below.refl _ _) | (with_reducible assumption) | (with_reducible refine boxed ?_ _) | (with_reducible refine Below.drew ?_) | (with_reducible refine after ?_ (by assumption))))⟩
  · cases h3 : unaryB op || takesB op b
    · have e : applyHas op a b = false := by simp [applyHas, h3]
      simp only [Bool.or_eq_false_iff] at h3
      obtain ⟨h3, h4⟩ := h3
      rw [applyV_no e, e]; clear e
      go_enter Tryd.func56, Tryd.ntmps56
      go_wp2_with fail
      refine (takes_any _ _ _ L).mono ?_; rintro e w' ⟨rfl, hw⟩; rw [h1]
      go_wp2_with fail
      refine (unary_any _ _).mono ?_; rintro e w'' ⟨rfl, hw'⟩; rw [h3]
      go_wp2_with fail
      refine (takes_any _ _ _ ((L.after hw).after hw')).mono ?_; rintro e w''' ⟨rfl, hw''⟩; rw [h4]
      go_wp2_with fail
      go_returns
      exact ⟨rfl, by (repeat' (first | (with_reducible exact Below.refl _ _) | (with_reducible assumption) | (with_reducible refine boxed ?_ _) | (with_reducible refine Below.drew ?_) | (with_reducible refine after ?_ (by assumption))))⟩
    · cases h5 : opHas op b
      all_goals cases h6 : inBase (wrapV op a b)
      all_goals cases h7 : unaryB op
      all_goals (try simp only [h7, Bool.false_or, Bool.true_or] at h3)
      all_goals first | (have e : applyHas op a b = false := by simp [applyHas, h5, h6]
                         rw [applyV_no e, e]; clear e) | (have e : applyHas op a b = true := by simp [applyHas, h1, h3, h5, h6, h7]
                                                          rw [applyV_yes e, e]; clear e)
      all_goals
        go_enter Tryd.func56, Tryd.ntmps56
        go_wp2_with fail
        refine (takes_any _ _ _ L).mono ?_; rintro e w' ⟨rfl, hw⟩; rw [h1]
        go_wp2_with fail
        refine (unary_any _ _).mono ?_; rintro e w'' ⟨rfl, hw'⟩; rw [h7]
        go_wp2_with (first | (go_at_call 79; refine (takes_any _ _ _ ((L.after hw).after hw')).mono ?_; rintro e w''' ⟨rfl, hw''⟩; rw [h3]) | (go_at_call 16; refine (wrap_any _ _ _ h0 _).mono ?_; rintro e wx ⟨rfl, hx⟩; rw [h5]) | (go_at_call 41; refine (in_any _ _).mono ?_; rintro e wy ⟨rfl, hy⟩; rw [h6]))
        go_returns
        exact ⟨rfl, by (repeat' (first | (with_reducible exact Below.refl _ _) | (with_reducible assumption) | (with_reducible refine boxed ?_ _) | (with_reducible refine Below.drew ?_) | (with_reducible refine after ?_ (by assumption))))⟩

/-- The second operand counts for nothing where there is one operand alone. -/
theorem wrapV_unary {op : Int} (h : unaryB op = true) (a b c : Int) : wrapV op a b = wrapV op a c ∧ opHas op b = opHas op c := by
  have h' : 16 ≤ op ∧ op ≤ 18 := of_decide_eq_true h
  rcases (show op = 16 ∨ op = 17 ∨ op = 18 by omega) with rfl | rfl | rfl
  all_goals simp [wrapV, opHas, opVal_16, opVal_17, opVal_18]

theorem takes_in {op v : Int} (h : takesB op v = true) : inBase v = true := by
  unfold takesB at h
  split at h
  · have := of_decide_eq_true h
    rw [inBase, decide_eq_true (by omega)]
  · exact h
theorem takes_not {op v : Int} (h : inBase v = false) : takesB op v = false := by
  cases e : takesB op v with
  | false => rfl
  | true => rw [takes_in e] at h; cases h
theorem in_zero : inBase 0 = true := by decide

end Go.Proofs.YtdbfaekdkjclcaaDoor
