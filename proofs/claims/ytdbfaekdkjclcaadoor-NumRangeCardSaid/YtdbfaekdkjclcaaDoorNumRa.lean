
/-
  'Range' of package num for every operator; 'head' of the statements: the fixed results from the document.
-/
import Derived.Test.YtdbfaekdkjclcaaDoorNumR
import Derived.Test.YtdbfaekdkjclcaaDoorNumV
namespace Go.Proofs.YtdbfaekdkjclcaaDoor
open Go Go.RowKit

theorem range_any (op a b c d : Int) (w : World) (L : Laid w) (h0 : 0 ≤ op) (hc : I64 c) (hd : I64 d) : Calls Tryd.prog 7 #[.int .u8 op, .agg #[.int .i64 a, .int .i64 b], .agg #[.int .i64 c, .int .i64 d]] w (Gives w (rangeV op a b c d)) := by
  by_cases hk : 1 ≤ op ∧ op ≤ 18
  · obtain ⟨h1, h2⟩ := hk
    by_cases hab : b < a
    · rw [rangeV, if_pos (by omega)]
      exact range_empty op a b c d w L h1 h2 hab
    · cases hu : unaryB op
      · by_cases hcd : d < c
        · rw [rangeV, if_pos (Or.inr (Or.inr ⟨hu, hcd⟩))]
          exact range_empty2 op a b c d w L h1 h2 hab hu hcd
        · rw [rangeV, if_neg (by rw [hu]; omega)]
          by_cases hz : (4 ≤ op ∧ op ≤ 6) ∧ c = 0 ∧ d = 0
          · rw [if_pos hz]
            exact range_zero op a b c d w L h1 h2 hab hu hcd hz.1.1 hz.1.2 hz.2.1 hz.2.2
          · rw [if_neg hz]
            by_cases h5 : op = 5
            · rw [if_pos h5]
              by_cases hc0 : c = 0
              · exact range_rem_z op a b c d w L h5 hc hd hab hcd hc0 (by omega)
              · exact range_rem_n op a b c d w L h5 hc hd hab hcd hc0
            · rw [if_neg h5]
              by_cases h6 : op = 6
              · rw [if_pos h6]
                by_cases hc0 : c = 0
                · exact range_mod_z op a b c d w L h6 hc hd hab hcd hc0 (by omega)
                · exact range_mod_n op a b c d w L h6 hc hd hab hcd hc0
              · rw [if_neg h6]
                have hne : op = 4 → divL c d ≠ [] := fun h => divL_some hc hd hcd (by omega)
                have hf : 4 ≤ op ∧ op ≤ 6 → ∀ v ∈ tellY op a b c d, ¬ v = 0 := fun h v hv => by
                  obtain rfl : op = 4 := by omega
                  rw [tellY, if_pos rfl] at hv
                  exact divL_ne hv
                by_cases hl : 13 ≤ op ∧ op ≤ 15
                · cases la : liesB a b 0 1
                  · rw [if_pos ⟨hl, by simp⟩]
                    exact range_full1 op a b c d w L h1 h2 hl.1 hl.2 hab hu hcd la
                  · cases lb : liesB c d 0 1
                    · rw [if_pos ⟨hl, by simp⟩]
                      exact range_full2 op a b c d w L h1 h2 hl.1 hl.2 hab hu hcd la lb
                    · rw [if_neg (by simp)]
                      exact range_truth op a b c d w L h1 h2 hl.1 hl.2 hab hu hcd la lb hne hf
                · rw [if_neg (fun h => hl h.1)]
                  by_cases h4 : op = 4
                  · by_cases hc0 : c = 0
                    · subst hc0
                      exact range_div_z op a b d w L h1 h2 h4 hab hcd (by omega) hne hf
                    · exact range_div_n op a b c d w L h1 h2 h4 hab hcd hc0 hne hf
                  · exact range_two op a b c d w L h1 h2 (by omega) hl hab hu hcd hne hf
      · have hu2 : 16 ≤ op ∧ op ≤ 18 := of_decide_eq_true hu
        rw [rangeV, if_neg (by rw [hu]; simp; omega), if_neg (by omega), if_neg (by omega), if_neg (by omega), if_neg (by omega)]
        exact range_one op a b c d w L h1 h2 hu hab (by omega) (by omega)
  · rw [rangeV, if_pos (Or.inl hk)]
    exact range_no op a b c d w L (by omega)

/-! ### the fixed results -/
def isB (op a b v : Int) : Bool := (applyV op a b == v) && applyHas op a b
def noneB (op a b : Int) : Bool := (applyV op a b == 0) && !applyHas op a b

theorem is_any (op a b v : Int) (h0 : 0 ≤ op) (w : World) (L : Laid w) : Calls Tryd.prog 39 #[.int .u8 op, .int .i64 a, .int .i64 b, .int .i64 v] w (Gives w (.bool (isB op a b v))) := by
  have e : isB op a b v = ((applyV op a b == v) && applyHas op a b) := rfl
  rw [e]
  clear e
  have HL := Lib.hid L
  clear L
  cases h : (applyV op a b == v)
  all_goals
    go_enter Tryd.func39, Tryd.ntmps39
    go_wp2_with fail
    refine (apply_any _ _ _ h0 _ HL.out).mono ?_; rintro e w1 ⟨rfl, hb⟩
    go_wp2_with fail
    go_returns
    exact ⟨by simp, by (repeat' (first | (with_reducible exact Below.refl _ _) | (with_reducible assumption) | (with_reducible refine boxed ?_ _) | (with_reducible refine Below.drew ?_) | (with_reducible refine after ?_ (by assumption))))⟩

theorem none_any (op a b : Int) (h0 : 0 ≤ op) (w : World) (L : Laid w) : Calls Tryd.prog 40 #[.int .u8 op, .int .i64 a, .int .i64 b] w (Gives w (.bool (noneB op a b))) := by
  have e : noneB op a b = ((applyV op a b == 0) && !applyHas op a b) := rfl
  rw [e]
  clear e
  have HL := Lib.hid L
  clear L
  cases h : (applyV op a b == 0)
  all_goals
    go_enter Tryd.func40, Tryd.ntmps40
    go_wp2_with fail
    refine (apply_any _ _ _ h0 _ HL.out).mono ?_; rintro e w1 ⟨rfl, hb⟩
    go_wp2_with fail
    go_returns
    exact ⟨by simp, by (repeat' (first | (with_reducible exact Below.refl _ _) | (with_reducible assumption) | (with_reducible refine boxed ?_ _) | (with_reducible refine Below.drew ?_) | (with_reducible refine after ?_ (by assumption))))⟩

theorem ival_agg (lo hi : Int) (w : World) : Calls Tryd.prog 15 #[.int .i64 lo, .int .i64 hi] w (Gives w (.agg #[.int .i64 lo, .int .i64 hi])) := ival_any lo hi w

set_option maxHeartbeats 4000000 in
/-- HEAD: the fixed results stand. -/
theorem head_true (w : World) (L : Laid w) : Calls Tryd.prog 9 #[] w (Gives w (.bool true)) := by
  have i1 : isB 4 (-7) 2 (-3) = true := by kernel_rfl
  have i2 : isB 5 (-7) 2 (-1) = true := by kernel_rfl
  have i3 : isB 6 (-7) 2 1 = true := by kernel_rfl
  have i4 : isB 6 7 (-2) (-1) = true := by kernel_rfl
  have i5 : noneB 4 (-2147483648) (-1) = true := by kernel_rfl
  have i6 : isB 5 (-2147483648) (-1) 0 = true := by kernel_rfl
  have i7 : noneB 4 1 0 = true := by kernel_rfl
  have i8 : noneB 13 1 2 = true := by kernel_rfl
  have i9 : noneB 1 2147483647 1 = true := by kernel_rfl
  have j1 : wrapV 1 9223372036854775807 1 = -9223372036854775808 := by kernel_rfl
  have j2 : opHas 1 1 = true := by kernel_rfl
  have k1 : rangeV 3 (-2) 3 4 5 = .agg #[.int .i64 (-10), .int .i64 15] := by kernel_rfl
  have k2 : rangeV 5 (-7) 100 10 10 = .agg #[.int .i64 (-7), .int .i64 9] := by kernel_rfl
  have k3 : rangeV 9 1 3 4 9 = .agg #[.int .i64 1, .int .i64 1] := by kernel_rfl
  have k4 : widenV 0 4 0 5 0 100 = .agg #[.int .i64 0, .int .i64 100] := by kernel_rfl
  have m1 : inBase (-2147483648) = true := by kernel_rfl
  have m2 : inBase 2147483648 = false := by kernel_rfl
  go_enter Tryd.func9, Tryd.ntmps9
  go_wp2_with (first
    | (go_at_call 39; refine (is_any _ _ _ _ (by omega) _ (by assumption)).mono ?_; rintro e w' ⟨rfl, hb⟩; have hL := Laid.after (by assumption) hb)
    | (go_at_call 40; refine (none_any _ _ _ (by omega) _ (by assumption)).mono ?_; rintro e w' ⟨rfl, hb⟩; have hL := Laid.after (by assumption) hb)
    | (go_at_call 16; refine (wrap_any _ _ _ (by omega) _).mono ?_; rintro e w' ⟨rfl, hb⟩; have hL := Laid.after (by assumption) hb)
    | (go_at_call 15; refine (ival_agg _ _ _).mono ?_; rintro e w' ⟨rfl, hb⟩; have hL := Laid.after (by assumption) hb)
    | (go_at_call 7; refine (range_any _ _ _ _ _ _ (by assumption) (by omega) ⟨by omega, by omega⟩ ⟨by omega, by omega⟩).mono ?_; (first | rw [k1] | rw [k2] | rw [k3]); rintro e w' ⟨rfl, hb⟩; have hL := Laid.after (by assumption) hb)
    | (go_at_call 12; refine (widen_any _ _ _ _ _ _ _ (by assumption)).mono ?_; rw [k4]; rintro e w' ⟨rfl, hb⟩; have hL := Laid.after (by assumption) hb)
    | (go_at_call 41; refine (in_any _ _).mono ?_; rintro e w' ⟨rfl, hb⟩; have hL := Laid.after (by assumption) hb))
  go_returns
  exact ⟨rfl, by (repeat' (first | (with_reducible exact Below.refl _ _) | (with_reducible assumption) | (with_reducible refine boxed ?_ _) | (with_reducible refine Below.drew ?_) | (with_reducible refine after ?_ (by assumption))))⟩

end Go.Proofs.YtdbfaekdkjclcaaDoor
