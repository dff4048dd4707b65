
/-
  THE REFERENCE's exact, contrary, can, remainder, modular.
-/
import Derived.Test.YtdbfaekdkjclcaaDoorNumQm
import Derived.Test.YtdbfaekdkjclcaaDoorNumRa
import Derived.Test.YtdbfaekdkjclcaaDoorNumO
import Derived.Test.YtdbfaekdkjclcaaDoorNumLi
import Derived.BigQuiet
namespace Go.Proofs.YtdbfaekdkjclcaaDoor
open Go Go.RowKit

theorem fits_no {p : Bool} {q : Prop} (h : p = true ↔ q) (hn : ¬ q) : p = false := by
  cases p with
  | false => rfl
  | true => exact absurd (h.1 rfl) hn
theorem ret_pair {k : IntKind} {a b : Int} {p q : Bool} (h1 : a = b) (h2 : p = q) : Ending.returned (.tuple #[.int k a, .bool p]) = Ending.returned (.tuple #[.int k b, .bool q]) := by rw [h1, h2]

/-! ### exact -/
theorem rexact_1 (x y : Int) (hx : I64 x) (hy : I64 y) (w : World) : Calls Tryd.prog 52 #[.int .u8 1, .int .i64 x, .int .i64 y] w (Gives w (.tuple #[.int .i64 (opVal 1 x y), .bool (opFits 1 x y)])) := by
  have hf : opFits 1 x y = addFits x y := rfl
  have hv : opVal 1 x y = wrap64 (x + y) := rfl
  rw [hf, hv]
  have hadd := add_iff hx hy
  obtain ⟨s, hs⟩ : ∃ s, wrap64 (x + y) = s := ⟨_, rfl⟩
  have HF : Hid (addFits x y = true ↔ (-9223372036854775808 ≤ x + y ∧ x + y ≤ 9223372036854775807)) := hadd
  have HS : Hid (s = (x + y + 9223372036854775808) % 18446744073709551616 - 9223372036854775808) := by show _ = _; rw [← hs]; unfold wrap64; rfl
  have HX : Hid (I64 x ∧ I64 y) := ⟨hx, hy⟩
  rw [hs]
  clear hf hv hadd hx hy
  by_cases c1 : x < 0
  all_goals by_cases c2 : y < 0
  all_goals by_cases c3 : s < 0
  all_goals
    go_enter Tryd.func52, Tryd.ntmps52
    go_wp2
    go_returns
    refine ⟨ret_pair (by first | rfl | exact hs) ?_, by (repeat' (first | (with_reducible exact Below.refl _ _) | (with_reducible assumption) | (with_reducible refine boxed ?_ _) | (with_reducible refine Below.drew ?_) | (with_reducible refine after ?_ (by assumption))))⟩
    have f := HF.out
    have g := HS.out
    obtain ⟨⟨x1, x2⟩, y1, y2⟩ := HX.out
    first
    | exact (f.2 (by omega)).symm
    | exact (fits_no f (by omega)).symm

theorem rexact_2 (x y : Int) (hx : I64 x) (hy : I64 y) (w : World) : Calls Tryd.prog 52 #[.int .u8 2, .int .i64 x, .int .i64 y] w (Gives w (.tuple #[.int .i64 (opVal 2 x y), .bool (opFits 2 x y)])) := by
  have hf : opFits 2 x y = subFits x y := rfl
  have hv : opVal 2 x y = wrap64 (x - y) := rfl
  rw [hf, hv]
  have hadd := sub_iff hx hy
  obtain ⟨s, hs⟩ : ∃ s, wrap64 (x - y) = s := ⟨_, rfl⟩
  have HF : Hid (subFits x y = true ↔ (-9223372036854775808 ≤ x - y ∧ x - y ≤ 9223372036854775807)) := hadd
  have HS : Hid (s = (x - y + 9223372036854775808) % 18446744073709551616 - 9223372036854775808) := by show _ = _; rw [← hs]; unfold wrap64; rfl
  have HX : Hid (I64 x ∧ I64 y) := ⟨hx, hy⟩
  rw [hs]
  clear hf hv hadd hx hy
  by_cases c1 : x < 0
  all_goals by_cases c2 : y < 0
  all_goals by_cases c3 : s < 0
  all_goals
    go_enter Tryd.func52, Tryd.ntmps52
    go_wp2
    go_returns
    refine ⟨ret_pair (by first | rfl | exact hs) ?_, by (repeat' (first | (with_reducible exact Below.refl _ _) | (with_reducible assumption) | (with_reducible refine boxed ?_ _) | (with_reducible refine Below.drew ?_) | (with_reducible refine after ?_ (by assumption))))⟩
    have f := HF.out
    have g := HS.out
    obtain ⟨⟨x1, x2⟩, y1, y2⟩ := HX.out
    first
    | exact (f.2 (by omega)).symm
    | exact (fits_no f (by omega)).symm

theorem rexact_4 (x y : Int) (hx : I64 x) (hz : ¬ y = 0) (w : World) : Calls Tryd.prog 52 #[.int .u8 4, .int .i64 x, .int .i64 y] w (Gives w (.tuple #[.int .i64 (opVal 4 x y), .bool (opFits 4 x y)])) := by
  have hf : opFits 4 x y = !(x == -9223372036854775808 && y == -1) := rfl
  have hv : opVal 4 x y = wrap64 (x.tdiv y) := rfl
  rw [hf, hv]
  clear hf hv
  by_cases h1 : y = -1
  · subst h1
    have e : x.tdiv (-1) = -x := by simp
    rw [e]
    clear e
    by_cases h2 : x = -9223372036854775808
    · subst h2
      go_enter Tryd.func52, Tryd.ntmps52
      go_wp2
      go_returns
      exact ⟨rfl, by (repeat' (first | (with_reducible exact Below.refl _ _) | (with_reducible assumption) | (with_reducible refine boxed ?_ _) | (with_reducible refine Below.drew ?_) | (with_reducible refine after ?_ (by assumption))))⟩
    · have b2 : (x == -9223372036854775808) = false := beq_eq_false_iff_ne.2 h2
      rw [b2]
      have HX := Lib.hid hx
      clear hx
      go_enter Tryd.func52, Tryd.ntmps52
      go_wp2
      go_returns
      exact ⟨ret_pair rfl (by simp [h2]), by (repeat' (first | (with_reducible exact Below.refl _ _) | (with_reducible assumption) | (with_reducible refine boxed ?_ _) | (with_reducible refine Below.drew ?_) | (with_reducible refine after ?_ (by assumption))))⟩
  · have b1 : (y == -1) = false := beq_eq_false_iff_ne.2 h1
    have e : (!(x == -9223372036854775808 && y == -1)) = true := by rw [b1]; simp
    rw [e]
    clear e
    have b0 : (y == 0) = false := beq_eq_false_iff_ne.2 hz
    go_enter Tryd.func52, Tryd.ntmps52
    go_wp2
    go_returns
    exact ⟨rfl, by (repeat' (first | (with_reducible exact Below.refl _ _) | (with_reducible assumption) | (with_reducible refine boxed ?_ _) | (with_reducible refine Below.drew ?_) | (with_reducible refine after ?_ (by assumption))))⟩

/-! ### contrary, can -/
theorem rcontrary_any (op : Int) (h7 : 7 ≤ op) (h12 : op ≤ 12) (w : World) : Calls Tryd.prog 35 #[.int .u8 op] w fun e w' => e = .returned (.int .u8 (contraryV op)) ∧ w = w' := by
  rcases (show op = 7 ∨ op = 8 ∨ op = 9 ∨ op = 10 ∨ op = 11 ∨ op = 12 by omega) with rfl | rfl | rfl | rfl | rfl | rfl
  all_goals
    go_enter Tryd.func35, Tryd.ntmps35
    go_wp2
    go_returns
    exact ⟨rfl, rfl⟩

theorem rcan_7 (a b c d : Int) (w : World) : Calls Tryd.prog 34 #[.int .u8 7, .agg #[.int .i64 a, .int .i64 b], .agg #[.int .i64 c, .int .i64 d]] w (Gives w (.bool (canB 7 a b c d))) := by
  obtain ⟨m0, m1, hm⟩ := meet_iv a b c d
  have e : canB 7 a b c d = !decide (m1 < m0) := by
    show (!decide (min b d < max a c)) = _
    unfold meetV at hm
    split at hm
    · have : (1 : Int) = m0 ∧ (0 : Int) = m1 := by simpa [iv] using hm
      rw [decide_eq_true (by assumption), decide_eq_true (by omega)]
    · have : max a c = m0 ∧ min b d = m1 := by simpa [iv] using hm
      rw [← this.1, ← this.2]
  rw [e]
  have HM := Lib.hid hm
  clear hm e
  cases hd : decide (m1 < m0)
  all_goals
    go_enter Tryd.func34, Tryd.ntmps34
    go_wp2_with fail
    refine (rmeet_any _ _ _ _ _).mono ?_
    rw [HM.out]
    rintro e w1 ⟨rfl, hb⟩
    go_wp2_with fail
    refine (rempty_any _ _ _).mono ?_
    rw [hd]
    rintro e w2 ⟨rfl, hb2⟩
    go_wp2_with fail
    go_returns
    exact ⟨rfl, after (after (by (repeat' (first | (with_reducible exact Below.refl _ _) | (with_reducible assumption) | (with_reducible refine boxed ?_ _) | (with_reducible refine Below.drew ?_) | (with_reducible refine after ?_ (by assumption))))) hb) hb2⟩

theorem rcan_8 (a b c d : Int) (w : World) : Calls Tryd.prog 34 #[.int .u8 8, .agg #[.int .i64 a, .int .i64 b], .agg #[.int .i64 c, .int .i64 d]] w (Gives w (.bool (canB 8 a b c d))) := by
  have e : canB 8 a b c d = (!(a == b) || (!(c == d) || !(a == c))) := rfl
  rw [e]
  clear e
  by_cases e1 : a = b
  · subst e1
    have h1 : (a == a) = true := beq_self_eq_true a
    rw [h1]
    by_cases e2 : c = d
    · subst e2
      have h2 : (c == c) = true := beq_self_eq_true c
      rw [h2]
      by_cases e3 : a = c
      · subst e3
        rw [h1]
        clear h1 h2
        go_enter Tryd.func34, Tryd.ntmps34
        go_wp2
        go_returns
        exact ⟨rfl, by (repeat' (first | (with_reducible exact Below.refl _ _) | (with_reducible assumption) | (with_reducible refine boxed ?_ _) | (with_reducible refine Below.drew ?_) | (with_reducible refine after ?_ (by assumption))))⟩
      · have h3 : (a == c) = false := beq_eq_false_iff_ne.2 e3
        rw [h3]
        clear h1 h2
        go_enter Tryd.func34, Tryd.ntmps34
        go_wp2
        go_returns
        refine ⟨?_, by (repeat' (first | (with_reducible exact Below.refl _ _) | (with_reducible assumption) | (with_reducible refine boxed ?_ _) | (with_reducible refine Below.drew ?_) | (with_reducible refine after ?_ (by assumption))))⟩
        show Ending.returned (.bool (a != c)) = Ending.returned (.bool _)
        rw [show (a != c) = true from bne_iff_ne.2 e3]
        rfl
    · have h2 : (c == d) = false := beq_eq_false_iff_ne.2 e2
      rw [h2]
      clear h1
      go_enter Tryd.func34, Tryd.ntmps34
      go_wp2
      go_returns
      exact ⟨rfl, by (repeat' (first | (with_reducible exact Below.refl _ _) | (with_reducible assumption) | (with_reducible refine boxed ?_ _) | (with_reducible refine Below.drew ?_) | (with_reducible refine after ?_ (by assumption))))⟩
  · have h1 : (a == b) = false := beq_eq_false_iff_ne.2 e1
    rw [h1]
    go_enter Tryd.func34, Tryd.ntmps34
    go_wp2
    go_returns
    exact ⟨rfl, by (repeat' (first | (with_reducible exact Below.refl _ _) | (with_reducible assumption) | (with_reducible refine boxed ?_ _) | (with_reducible refine Below.drew ?_) | (with_reducible refine after ?_ (by assumption))))⟩

theorem rcan_any (op a b c d : Int) (h7 : 7 ≤ op) (h12 : op ≤ 12) (w : World) : Calls Tryd.prog 34 #[.int .u8 op, .agg #[.int .i64 a, .int .i64 b], .agg #[.int .i64 c, .int .i64 d]] w (Gives w (.bool (canB op a b c d))) := by
  rcases (show op = 7 ∨ op = 8 ∨ op = 9 ∨ op = 10 ∨ op = 11 ∨ op = 12 by omega) with rfl | rfl | rfl | rfl | rfl | rfl
  · exact rcan_7 a b c d w
  · exact rcan_8 a b c d w
  · have e : canB 9 a b c d = decide (a < d) := rfl
    rw [e]
    clear e
    go_enter Tryd.func34, Tryd.ntmps34
    go_wp2
    go_returns
    exact ⟨rfl, by (repeat' (first | (with_reducible exact Below.refl _ _) | (with_reducible assumption) | (with_reducible refine boxed ?_ _) | (with_reducible refine Below.drew ?_) | (with_reducible refine after ?_ (by assumption))))⟩
  · have e : canB 10 a b c d = decide (a ≤ d) := rfl
    rw [e]
    clear e
    go_enter Tryd.func34, Tryd.ntmps34
    go_wp2
    go_returns
    exact ⟨rfl, by (repeat' (first | (with_reducible exact Below.refl _ _) | (with_reducible assumption) | (with_reducible refine boxed ?_ _) | (with_reducible refine Below.drew ?_) | (with_reducible refine after ?_ (by assumption))))⟩
  · have e : canB 11 a b c d = decide (c < b) := rfl
    rw [e]
    clear e
    go_enter Tryd.func34, Tryd.ntmps34
    go_wp2
    go_returns
    exact ⟨rfl, by (repeat' (first | (with_reducible exact Below.refl _ _) | (with_reducible assumption) | (with_reducible refine boxed ?_ _) | (with_reducible refine Below.drew ?_) | (with_reducible refine after ?_ (by assumption))))⟩
  · have e : canB 12 a b c d = decide (c ≤ b) := rfl
    rw [e]
    clear e
    go_enter Tryd.func34, Tryd.ntmps34
    go_wp2
    go_returns
    exact ⟨rfl, by (repeat' (first | (with_reducible exact Below.refl _ _) | (with_reducible assumption) | (with_reducible refine boxed ?_ _) | (with_reducible refine Below.drew ?_) | (with_reducible refine after ?_ (by assumption))))⟩

theorem ints_one {w : World} {b : Nat} {u : Int} (h : w.cell? ⟨b, 0, none⟩ = some (.int .i64 u)) : Ints w b 1 [u] :=
  ⟨rfl, fun i hi => by
    obtain rfl : i = 0 := by omega
    exact h⟩

end Go.Proofs.YtdbfaekdkjclcaaDoor
