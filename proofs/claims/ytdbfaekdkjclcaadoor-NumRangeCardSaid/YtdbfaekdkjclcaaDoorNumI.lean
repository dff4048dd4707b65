
/-
  INTERVALS: the least and the greatest of some integers; what intervals contain; join, meet, widening: of package num and of ceilingref01.
-/
import Derived.Test.YtdbfaekdkjclcaaDoorNumZ
import Derived.Deep.QuietTactic
import Derived.Deep.RegionWith
namespace Go.Proofs.YtdbfaekdkjclcaaDoor
open Go Go.RowKit

def iv (lo hi : Int) : Value := .agg #[.int .i64 lo, .int .i64 hi]

/-! ### the least, the greatest -/
def minL (f : Int) (zs : List Int) : Int := zs.foldl (fun a b => if b < a then b else a) f
def maxL (f : Int) (zs : List Int) : Int := zs.foldl (fun a b => if a < b then b else a) f

theorem take_snoc_int (zs : List Int) (k : Nat) (h : k < zs.length) : zs.take (k + 1) = zs.take k ++ [zs.getD k 0] := by
  rw [List.take_succ_eq_append_getElem h]
  simp [List.getD_eq_getElem?_getD, h]
theorem minL_take (f : Int) (zs : List Int) (k : Nat) (h : k < zs.length) : minL f (zs.take (k + 1)) = if zs.getD k 0 < minL f (zs.take k) then zs.getD k 0 else minL f (zs.take k) := by
  rw [take_snoc_int zs k h, minL, List.foldl_append]; rfl
theorem maxL_take (f : Int) (zs : List Int) (k : Nat) (h : k < zs.length) : maxL f (zs.take (k + 1)) = if maxL f (zs.take k) < zs.getD k 0 then zs.getD k 0 else maxL f (zs.take k) := by
  rw [take_snoc_int zs k h, maxL, List.foldl_append]; rfl

theorem least_any (f : Int) (b len cap : Nat) (zs : List Int) (w : World) (hz : zs.length = len) (hm : len ≤ maxLen) (hc : ∀ i, i < len → w.cell? ⟨b, i, none⟩ = some (.int .i64 (zs.getD i 0))) :
    Calls Tryd.prog 42 #[.int .i64 f, .slice (some ⟨b, 0, none⟩) len cap] w fun e w' => e = .returned (.int .i64 (minL f zs)) ∧ w = w' := by
  unfold maxLen at hm
  have HZ := Lib.hid hz; clear hz
  have HC := Lib.hid hc; clear hc
  go_enter Tryd.func42, Tryd.ntmps42
  go_wp2
  go_loop [0, 6, 9] (fun c _ i => ∃ k : Nat, k ≤ len ∧ i = .int .i64 k ∧ c = .int .i64 (minL f (zs.take k))) (fun _ _ i => len - (intOf i).toNat)
  case atStart => exact ⟨0, Nat.zero_le _, rfl, rfl⟩
  case round =>
    obtain ⟨k, hk, rfl, rfl⟩ := hrel
    by_cases hlt : k < len
    · have hcell := HC.out k hlt
      have HS := Lib.hid (minL_take f zs k (by rw [HZ.out]; exact hlt))
      generalize zs.getD k 0 = z at hcell HS
      generalize minL f (zs.take k) = c at HS
      by_cases hv : z < c
      · go_wp2
        go_round
        case rel => exact ⟨k + 1, by omega, by go_num, by rw [HS.out, if_pos hv]⟩
        case measure => simp [intOf]; omega
      · go_wp2
        go_round
        case rel => exact ⟨k + 1, by omega, by go_num, by rw [HS.out, if_neg (by omega)]⟩
        case measure => simp [intOf]; omega
    · go_wp2
      go_returns
      exact ⟨by rw [List.take_of_length_le (by rw [HZ.out]; omega)]; rfl, rfl⟩

theorem greatest_any (f : Int) (b len cap : Nat) (zs : List Int) (w : World) (hz : zs.length = len) (hm : len ≤ maxLen) (hc : ∀ i, i < len → w.cell? ⟨b, i, none⟩ = some (.int .i64 (zs.getD i 0))) :
    Calls Tryd.prog 43 #[.int .i64 f, .slice (some ⟨b, 0, none⟩) len cap] w fun e w' => e = .returned (.int .i64 (maxL f zs)) ∧ w = w' := by
  unfold maxLen at hm
  have HZ := Lib.hid hz; clear hz
  have HC := Lib.hid hc; clear hc
  go_enter Tryd.func43, Tryd.ntmps43
  go_wp2
  go_loop [0, 6, 9] (fun c _ i => ∃ k : Nat, k ≤ len ∧ i = .int .i64 k ∧ c = .int .i64 (maxL f (zs.take k))) (fun _ _ i => len - (intOf i).toNat)
  case atStart => exact ⟨0, Nat.zero_le _, rfl, rfl⟩
  case round =>
    obtain ⟨k, hk, rfl, rfl⟩ := hrel
    by_cases hlt : k < len
    · have hcell := HC.out k hlt
      have HS := Lib.hid (maxL_take f zs k (by rw [HZ.out]; exact hlt))
      generalize zs.getD k 0 = z at hcell HS
      generalize maxL f (zs.take k) = c at HS
      by_cases hv : c < z
      · go_wp2
        go_round
        case rel => exact ⟨k + 1, by omega, by go_num, by rw [HS.out, if_pos hv]⟩
        case measure => simp [intOf]; omega
      · go_wp2
        go_round
        case rel => exact ⟨k + 1, by omega, by go_num, by rw [HS.out, if_neg (by omega)]⟩
        case measure => simp [intOf]; omega
    · go_wp2
      go_returns
      exact ⟨by rw [List.take_of_length_le (by rw [HZ.out]; omega)]; rfl, rfl⟩

theorem one_cell {w : World} {b : Nat} {z : Int} (hc : w.cell? ⟨b, 0, none⟩ = some (.int .i64 z)) : ∀ i, i < 1 → w.cell? ⟨b, i, none⟩ = some (.int .i64 ([z].getD i 0)) := by
  intro i hi
  obtain rfl : i = 0 := by omega
  exact hc
/-- Two integers, the way in which Join and Meet call it. -/
theorem least_two (f z : Int) (b : Nat) (w : World) (hc : w.cell? ⟨b, 0, none⟩ = some (.int .i64 z)) :
    Calls Tryd.prog 42 #[.int .i64 f, .slice (some ⟨b, 0, none⟩) 1 1] w fun e w' => e = .returned (.int .i64 (min f z)) ∧ w = w' := by
  have e : min f z = minL f [z] := by simp [minL]; omega
  rw [e]
  exact least_any f b 1 1 [z] w rfl (by unfold maxLen; omega) (one_cell hc)
theorem greatest_two (f z : Int) (b : Nat) (w : World) (hc : w.cell? ⟨b, 0, none⟩ = some (.int .i64 z)) :
    Calls Tryd.prog 43 #[.int .i64 f, .slice (some ⟨b, 0, none⟩) 1 1] w fun e w' => e = .returned (.int .i64 (max f z)) ∧ w = w' := by
  have e : max f z = maxL f [z] := by simp [maxL]; omega
  rw [e]
  exact greatest_any f b 1 1 [z] w rfl (by unfold maxLen; omega) (one_cell hc)

/-! ### what intervals contain -/
theorem empty_any (lo hi : Int) (w : World) : Calls Tryd.prog 18 #[.agg #[.int .i64 lo, .int .i64 hi]] w (Gives w (.bool (decide (hi < lo)))) := by
  go_enter Tryd.func18, Tryd.ntmps18
  go_wp2
  go_returns
  exact ⟨rfl, by (repeat' (first | (with_reducible exact Below.refl _ _) | (with_reducible assumption) | (with_reducible refine boxed ?_ _) | (with_reducible refine Below.drew ?_) | (with_reducible refine after ?_ (by assumption))))⟩
theorem rempty_any (lo hi : Int) (w : World) : Calls Tryd.prog 26 #[.agg #[.int .i64 lo, .int .i64 hi]] w (Gives w (.bool (decide (hi < lo)))) := by
  go_enter Tryd.func26, Tryd.ntmps26
  go_wp2
  go_returns
  exact ⟨rfl, by (repeat' (first | (with_reducible exact Below.refl _ _) | (with_reducible assumption) | (with_reducible refine boxed ?_ _) | (with_reducible refine Below.drew ?_) | (with_reducible refine after ?_ (by assumption))))⟩
theorem rhas_any (lo hi v : Int) (w : World) : Calls Tryd.prog 38 #[.agg #[.int .i64 lo, .int .i64 hi], .int .i64 v] w (Gives w (.bool (hasB lo hi v))) := by
  by_cases h1 : lo ≤ v
  all_goals by_cases h2 : v ≤ hi
  all_goals
    go_enter Tryd.func38, Tryd.ntmps38
    go_wp2
    all_goals go_returns
  all_goals exact ⟨by first | (rw [hasB, decide_eq_true (by omega)]; rfl) | (rw [hasB, decide_eq_false (by omega)]; rfl), by (repeat' (first | (with_reducible exact Below.refl _ _) | (with_reducible assumption) | (with_reducible refine boxed ?_ _) | (with_reducible refine Below.drew ?_) | (with_reducible refine after ?_ (by assumption))))⟩
theorem ival_any (lo hi : Int) (w : World) : Calls Tryd.prog 15 #[.int .i64 lo, .int .i64 hi] w (Gives w (iv lo hi)) := by
  go_enter Tryd.func15, Tryd.ntmps15
  go_wp2
  go_returns
  exact ⟨rfl, by (repeat' (first | (with_reducible exact Below.refl _ _) | (with_reducible assumption) | (with_reducible refine boxed ?_ _) | (with_reducible refine Below.drew ?_) | (with_reducible refine after ?_ (by assumption))))⟩
theorem rnone_any (w : World) : Calls Tryd.prog 28 #[] w (Gives w (iv 1 0)) := by
  go_enter Tryd.func28, Tryd.ntmps28
  go_wp2
  go_returns
  exact ⟨rfl, by (repeat' (first | (with_reducible exact Below.refl _ _) | (with_reducible assumption) | (with_reducible refine boxed ?_ _) | (with_reducible refine Below.drew ?_) | (with_reducible refine after ?_ (by assumption))))⟩
theorem rfull_any (w : World) : Calls Tryd.prog 37 #[] w (Gives w (iv (-9223372036854775808) 9223372036854775807)) := by
  go_enter Tryd.func37, Tryd.ntmps37
  go_wp2
  go_returns
  exact ⟨rfl, by (repeat' (first | (with_reducible exact Below.refl _ _) | (with_reducible assumption) | (with_reducible refine boxed ?_ _) | (with_reducible refine Below.drew ?_) | (with_reducible refine after ?_ (by assumption))))⟩

end Go.Proofs.YtdbfaekdkjclcaaDoor
