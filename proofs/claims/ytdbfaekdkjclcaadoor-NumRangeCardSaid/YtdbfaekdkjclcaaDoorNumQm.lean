
/-
  THE REFERENCE's RANGE: mathematics: its ways come to the same interval.
-/
import Derived.Test.YtdbfaekdkjclcaaDoorNumXm
namespace Go.Proofs.YtdbfaekdkjclcaaDoor
open Go Go.RowKit

/-- The hull of an operator's values for some operands, or the full interval. -/
def IsHull (op : Int) (xs ys : List Int) (v : Value) : Prop :=
  (fitsV op xs ys = true ∧ ∃ lo hi, v = iv lo hi ∧ Hull (fun z => z ∈ valsV op xs ys) lo hi) ∨ (fitsV op xs ys = false ∧ v = iv (-9223372036854775808) 9223372036854775807)

theorem hull_list {z : Int} {r : List Int} : Hull (fun v => v ∈ z :: r) (minL ((z :: r).getD 0 0) (z :: r)) (maxL ((z :: r).getD 0 0) (z :: r)) := by
  refine Or.inr ⟨?_, ?_, fun v hv => ⟨minL_le _ _ _ hv, le_maxL _ _ _ hv⟩⟩
  · rcases minL_mem ((z :: r).getD 0 0) (z :: r) with h | h
    · rw [h]; simp
    · exact h
  · rcases maxL_mem ((z :: r).getD 0 0) (z :: r) with h | h
    · rw [h]; simp
    · exact h

theorem vals_some {op : Int} {xs ys : List Int} (hx : 1 ≤ xs.length) (hy : 1 ≤ ys.length) : ∃ z r, valsV op xs ys = z :: r := by
  have hl := length_valsV op ys xs
  cases hv : valsV op xs ys with
  | nil =>
    rw [hv] at hl
    have := Nat.mul_le_mul hx hy
    simp at hl; omega
  | cons z r => exact ⟨z, r, rfl⟩

theorem hullV_is {op : Int} {xs ys : List Int} (hx : 1 ≤ xs.length) (hy : 1 ≤ ys.length) : IsHull op xs ys (hullV op xs ys) := by
  unfold hullV
  cases hf : fitsV op xs ys with
  | false => exact Or.inr ⟨hf, by simp⟩
  | true =>
    obtain ⟨z, r, hz⟩ := vals_some (op := op) hx hy
    refine Or.inl ⟨hf, _, _, by rw [if_pos rfl], ?_⟩
    rw [hz]
    exact hull_list

theorem IsHull.uniq {op op' : Int} {xs ys xs' ys' : List Int} {v v' : Value} (h : IsHull op xs ys v) (h' : IsHull op' xs' ys' v') (hf : fitsV op xs ys = fitsV op' xs' ys') (hv : fitsV op xs ys = true → ∀ z, z ∈ valsV op xs ys ↔ z ∈ valsV op' xs' ys') : v = v' := by
  rcases h with ⟨h1, lo, hi, rfl, h2⟩ | ⟨h1, rfl⟩
  · rcases h' with ⟨k1, lo', hi', rfl, k2⟩ | ⟨k1, rfl⟩
    · obtain ⟨rfl, rfl⟩ := (h2.congr (hv h1)).uniq k2
      rfl
    · rw [hf, k1] at h1; cases h1
  · rcases h' with ⟨k1, _⟩ | ⟨k1, rfl⟩
    · rw [hf, k1] at h1; cases h1
    · rfl

theorem mem_valsV {op : Int} {xs ys : List Int} {z : Int} : z ∈ valsV op xs ys ↔ ∃ x ∈ xs, ∃ y ∈ ys, z = opVal op x y := by
  constructor
  · intro h
    obtain ⟨u, hu, v, hv, rfl⟩ := vals_mem h
    exact ⟨u, hu, v, hv, rfl⟩
  · rintro ⟨x, hx, y, hy, rfl⟩
    exact mem_vals hx hy
theorem fitsV_iff {op : Int} {xs ys : List Int} : fitsV op xs ys = true ↔ ∀ x ∈ xs, ∀ y ∈ ys, opFits op x y = true :=
  ⟨fun h _ hx _ hy => fits_mem h hx hy, fun h => List.all_eq_true.2 fun x hx => List.all_eq_true.2 fun y hy => h x hx y hy⟩

/-! ### quotients -/
/-- The divisors that the reference looks at. -/
def rdivL (c d : Int) : List Int := [c, -1, 1, d].filter fun y => !(y == 0) && hasB c d y
theorem mem_rdivL {c d y : Int} : y ∈ rdivL c d ↔ (y = c ∨ y = -1 ∨ y = 1 ∨ y = d) ∧ ¬ y = 0 ∧ c ≤ y ∧ y ≤ d := by
  unfold rdivL hasB
  rw [List.mem_filter]
  simp
theorem mem_divL {c d y : Int} (hc : I64 c) (hd : I64 d) (h : ¬ d < c) : y ∈ divL c d ↔ (y = c ∨ y = -1 ∨ y = 1 ∨ y = d) ∧ ¬ y = 0 ∧ c ≤ y ∧ y ≤ d := by
  unfold divL I64 at *
  rw [List.mem_append]
  by_cases h1 : min d (-1) < max c (-9223372036854775808)
  · rw [if_pos h1]
    by_cases h2 : min d 9223372036854775807 < max c 1
    · rw [if_pos h2]; simp; omega
    · rw [if_neg h2]; simp; omega
  · rw [if_neg h1]
    by_cases h2 : min d 9223372036854775807 < max c 1
    · rw [if_pos h2]; simp; omega
    · rw [if_neg h2]; simp; omega
theorem rdiv_mem {c d y : Int} (hc : I64 c) (hd : I64 d) (h : ¬ d < c) : y ∈ rdivL c d ↔ y ∈ divL c d := by rw [mem_rdivL, mem_divL hc hd h]

theorem Bool_eq_of {p q : Bool} (h : p = true ↔ q = true) : p = q := by cases p <;> cases q <;> simp_all

theorem div_same {a b c d : Int} (hc : I64 c) (hd : I64 d) (h : ¬ d < c) (hz : ¬ (c = 0 ∧ d = 0)) : hullV 4 [a, b] (rdivL c d) = hullV 4 (tellX 4 a b c d) (tellY 4 a b c d) := by
  have e : tellY 4 a b c d = divL c d := rfl
  have ex : tellX 4 a b c d = [a, b] := rfl
  rw [e, ex]
  have n1 : 1 ≤ (divL c d).length := by
    have := divL_some hc hd h hz
    cases hl : divL c d with
    | nil => exact absurd hl this
    | cons _ _ => simp
  have n2 : 1 ≤ (rdivL c d).length := by
    have := divL_some hc hd h hz
    cases hl : divL c d with
    | nil => exact absurd hl this
    | cons y r =>
      have hy : y ∈ rdivL c d := (rdiv_mem hc hd h).2 (by rw [hl]; simp)
      cases hr : rdivL c d with
      | nil => rw [hr] at hy; cases hy
      | cons _ _ => simp
  refine (hullV_is (by simp) n2).uniq (hullV_is (by simp) n1) (Bool_eq_of ?_) (fun _ z => ?_)
  · rw [fitsV_iff, fitsV_iff]
    exact ⟨fun h1 x hx y hy => h1 x hx y ((rdiv_mem hc hd h).2 hy), fun h1 x hx y hy => h1 x hx y ((rdiv_mem hc hd h).1 hy)⟩
  · rw [mem_valsV, mem_valsV]
    exact ⟨fun ⟨x, hx, y, hy, e⟩ => ⟨x, hx, y, (rdiv_mem hc hd h).1 hy, e⟩, fun ⟨x, hx, y, hy, e⟩ => ⟨x, hx, y, (rdiv_mem hc hd h).2 hy, e⟩⟩

/-! ### negation, not -/
theorem neg_same {a b c d : Int} : hullV 2 [0] [a, b] = hullV 16 (tellX 16 a b c d) (tellY 16 a b c d) := by
  have ex : tellX 16 a b c d = [a, b] := rfl
  have ey : tellY 16 a b c d = [c, d] := rfl
  rw [ex, ey]
  refine (hullV_is (by simp) (by simp)).uniq (hullV_is (by simp) (by simp)) ?_ (fun _ z => ?_)
  · show ((subFits 0 a && (subFits 0 b && true)) && true) = ((subFits 0 a && (subFits 0 a && true)) && ((subFits 0 b && (subFits 0 b && true)) && true))
    cases subFits 0 a <;> cases subFits 0 b <;> rfl
  · show z ∈ [wrap64 (0 - a), wrap64 (0 - b)] ↔ z ∈ [wrap64 (0 - a), wrap64 (0 - a), wrap64 (0 - b), wrap64 (0 - b)]
    simp
theorem not_same {a b c d : Int} : hullV 2 [1] [a, b] = hullV 18 (tellX 18 a b c d) (tellY 18 a b c d) := by
  have ex : tellX 18 a b c d = [a, b] := rfl
  have ey : tellY 18 a b c d = [c, d] := rfl
  rw [ex, ey]
  refine (hullV_is (by simp) (by simp)).uniq (hullV_is (by simp) (by simp)) ?_ (fun _ z => ?_)
  · show ((subFits 1 a && (subFits 1 b && true)) && true) = ((subFits 1 a && (subFits 1 a && true)) && ((subFits 1 b && (subFits 1 b && true)) && true))
    cases subFits 1 a <;> cases subFits 1 b <;> rfl
  · show z ∈ [wrap64 (1 - a), wrap64 (1 - b)] ↔ z ∈ [wrap64 (1 - a), wrap64 (1 - a), wrap64 (1 - b), wrap64 (1 - b)]
    simp

/-! ### the absolute value -/
def absL (a b : Int) : List Int := if hasB a b 0 = true then [max a (-a), max b (-b), 0] else [max a (-a), max b (-b)]
theorem abs_val {a : Int} (ha : I64 a) (hm : ¬ a = -9223372036854775808) : absFits a = true ∧ absV a = max a (-a) ∧ addFits (max a (-a)) 0 = true ∧ wrap64 (max a (-a) + 0) = max a (-a) := by
  unfold I64 at ha
  have h1 : I64v (max a (-a)) := by unfold I64v; omega
  have h2 : wrap64 (max a (-a) + 0) = max a (-a) := by
    rw [Int.add_zero]; exact wrap_id h1
  have h3 : I64v (max a (-a) + 0) := by rw [Int.add_zero]; exact h1
  refine ⟨?_, ?_, (add_iff h1 (by unfold I64v; omega)).2 h3, h2⟩
  · unfold absFits
    split
    · rfl
    · exact (sub_iff (by unfold I64v; omega) (by unfold I64v; omega)).2 (by unfold I64v; omega)
  · unfold absV
    split
    · omega
    · rw [wrap_id (by unfold I64v; omega)]; omega
theorem abs_same {a b c d : Int} (ha : I64 a) (hb : I64 b) (hab : ¬ b < a) : (if a = -9223372036854775808 then iv (-9223372036854775808) 9223372036854775807 else hullV 1 (absL a b) [0]) = hullV 17 (tellX 17 a b c d) (tellY 17 a b c d) := by
  have ey : tellY 17 a b c d = [c, d] := rfl
  have ex : tellX 17 a b c d = if hasB a b 0 = true then [a, b, 0] else [a, b] := rfl
  have l1 : 1 ≤ (tellX 17 a b c d).length := (tellX_len 17 a b c d).1
  by_cases hm : a = -9223372036854775808
  · rw [if_pos hm]
    have hf : fitsV 17 (tellX 17 a b c d) (tellY 17 a b c d) = false := by
      cases hc : fitsV 17 (tellX 17 a b c d) (tellY 17 a b c d) with
      | false => rfl
      | true =>
        have h1 := fits_mem hc (x_first 17 a b c d).1 (y_first (by omega) a b c d).1
        have h2 : absFits a = true := h1
        subst hm
        have h3 : subFits 0 (-9223372036854775808) = true := h2
        have := (sub_iff (by unfold I64v; omega) (by unfold I64v; omega)).1 h3
        unfold I64v at this; omega
    unfold hullV
    rw [hf]; rfl
  · rw [if_neg hm]
    have hz : ¬ (0 : Int) = -9223372036854775808 := by omega
    have hbm : ¬ b = -9223372036854775808 := by unfold I64 at *; omega
    obtain ⟨a1, a2, a3, a4⟩ := abs_val ha hm
    obtain ⟨b1, b2, b3, b4⟩ := abs_val hb hbm
    have z1 : absFits 0 = true := rfl
    have z2 : absV 0 = 0 := rfl
    have z3 : addFits 0 0 = true := (add_iff (by unfold I64v; omega) (by unfold I64v; omega)).2 (by unfold I64v; omega)
    have z4 : wrap64 (0 + 0) = 0 := wrap_id (by unfold I64v; omega)
    have l2 : 1 ≤ (absL a b).length := by unfold absL; split <;> simp
    refine (hullV_is l2 (by simp)).uniq (hullV_is l1 (by rw [ey]; simp)) ?_ (fun _ z => ?_)
    · rw [ex, ey]
      unfold absL
      have p1 : ∀ x y, opFits 1 x y = addFits x y := fun _ _ => rfl
      have p2 : ∀ x y, opFits 17 x y = absFits x := fun _ _ => rfl
      split
      · simp [fitsV, rowF, p1, p2, a1, a3, b1, b3, z1, z3]
      · simp [fitsV, rowF, p1, p2, a1, a3, b1, b3]
    · rw [ex, ey]
      unfold absL
      have p1 : ∀ x y, opVal 1 x y = wrap64 (x + y) := fun _ _ => rfl
      have p2 : ∀ x y, opVal 17 x y = absV x := fun _ _ => rfl
      split
      · simp only [valsV, rowV, List.flatMap_cons, List.flatMap_nil, List.map_cons, List.map_nil, p1, p2, a2, a4, b2, b4, z2, z4]
        simp
      · simp only [valsV, rowV, List.flatMap_cons, List.flatMap_nil, List.map_cons, List.map_nil, p1, p2, a2, a4, b2, b4]
        simp

/-! ### remainders, moduli -/
def rdown (c d : Int) : Int := (if 0 ≤ d ∧ -d < c ∨ 0 < c then -d else c) + 1
theorem rem_same {a b c d : Int} (hcd : ¬ d < c) (_hz : ¬ (c = 0 ∧ d = 0)) : iv (min (max a (rdown c d)) 0) (max (min b (-(rdown c d))) 0) = remV a b c d := by
  have e : rdown c d = -(remM c d) := by
    unfold rdown remM belowV
    split <;> split <;> split <;> omega
  unfold remV
  rw [e, Int.neg_neg, Int.min_comm, Int.max_comm (min b (remM c d)) 0]

/-! ### relations -/
def canB (op a b c d : Int) : Bool :=
  if op = 7 then !decide (min b d < max a c) else if op = 8 then !(a == b) || (!(c == d) || !(a == c)) else if op = 9 then decide (a < d) else if op = 10 then decide (a ≤ d) else if op = 11 then decide (c < b) else decide (c ≤ b)
def contraryV (op : Int) : Int := if op = 7 then 8 else if op = 8 then 7 else if op = 9 then 12 else if op = 10 then 11 else if op = 11 then 10 else 9
theorem can_iff {op a b c d : Int} (h7 : 7 ≤ op) (h12 : op ≤ 12) (hab : ¬ b < a) (hcd : ¬ d < c) : canB op a b c d = true ↔ ∃ x y, a ≤ x ∧ x ≤ b ∧ c ≤ y ∧ y ≤ d ∧ relB op x y = true := by
  rcases (show op = 7 ∨ op = 8 ∨ op = 9 ∨ op = 10 ∨ op = 11 ∨ op = 12 by omega) with rfl | rfl | rfl | rfl | rfl | rfl
  · show (!decide (min b d < max a c)) = true ↔ _
    simp only [Bool.not_eq_true', decide_eq_false_iff_not]
    constructor
    · intro h; exact ⟨max a c, max a c, by omega, by omega, by omega, by omega, by simp [relB]⟩
    · rintro ⟨x, y, h1, h2, h3, h4, h5⟩
      have : x = y := by simpa [relB] using h5
      omega
  · show (!(a == b) || (!(c == d) || !(a == c))) = true ↔ _
    have e : (!(a == b) || (!(c == d) || !(a == c))) = true ↔ ¬ (a = b ∧ c = d ∧ a = c) := by
      simp only [Bool.or_eq_true, Bool.not_eq_true', beq_eq_false_iff_ne]
      omega
    rw [e]
    constructor
    · intro h
      by_cases h1 : a = c
      · by_cases h2 : a = b
        · exact ⟨a, d, by omega, by omega, by omega, by omega, by simp [relB]; omega⟩
        · exact ⟨b, c, by omega, by omega, by omega, by omega, by simp [relB]; omega⟩
      · exact ⟨a, c, by omega, by omega, by omega, by omega, by simp [relB]; omega⟩
    · rintro ⟨x, y, h1, h2, h3, h4, h5⟩
      have : ¬ x = y := by simpa [relB] using h5
      omega
  · show decide (a < d) = true ↔ _
    rw [decide_eq_true_iff]
    constructor
    · intro h; exact ⟨a, d, by omega, by omega, by omega, by omega, by simp [relB]; omega⟩
    · rintro ⟨x, y, h1, h2, h3, h4, h5⟩
      have : x < y := by simpa [relB] using h5
      omega
  · show decide (a ≤ d) = true ↔ _
    rw [decide_eq_true_iff]
    constructor
    · intro h; exact ⟨a, d, by omega, by omega, by omega, by omega, by simp [relB]; omega⟩
    · rintro ⟨x, y, h1, h2, h3, h4, h5⟩
      have : x ≤ y := by simpa [relB] using h5
      omega
  · show decide (c < b) = true ↔ _
    rw [decide_eq_true_iff]
    constructor
    · intro h; exact ⟨b, c, by omega, by omega, by omega, by omega, by simp [relB]; omega⟩
    · rintro ⟨x, y, h1, h2, h3, h4, h5⟩
      have : y < x := by simpa [relB] using h5
      omega
  · show decide (c ≤ b) = true ↔ _
    rw [decide_eq_true_iff]
    constructor
    · intro h; exact ⟨b, c, by omega, by omega, by omega, by omega, by simp [relB]; omega⟩
    · rintro ⟨x, y, h1, h2, h3, h4, h5⟩
      have : y ≤ x := by simpa [relB] using h5
      omega
theorem rel_contrary {op : Int} (h7 : 7 ≤ op) (h12 : op ≤ 12) (x y : Int) : relB (contraryV op) x y = !relB op x y := by
  rcases (show op = 7 ∨ op = 8 ∨ op = 9 ∨ op = 10 ∨ op = 11 ∨ op = 12 by omega) with rfl | rfl | rfl | rfl | rfl | rfl
  · simp [relB, contraryV]
  · simp [relB, contraryV]
  · show decide (y ≤ x) = !decide (x < y); rw [Bool.eq_iff_iff]; simp
  · show decide (y < x) = !decide (x ≤ y); rw [Bool.eq_iff_iff]; simp
  · show decide (x ≤ y) = !decide (y < x); rw [Bool.eq_iff_iff]; simp
  · show decide (x < y) = !decide (y ≤ x); rw [Bool.eq_iff_iff]; simp
theorem contrary_in {op : Int} (h7 : 7 ≤ op) (h12 : op ≤ 12) : 7 ≤ contraryV op ∧ contraryV op ≤ 12 := by
  rcases (show op = 7 ∨ op = 8 ∨ op = 9 ∨ op = 10 ∨ op = 11 ∨ op = 12 by omega) with rfl | rfl | rfl | rfl | rfl | rfl <;> decide

theorem rel_opVal {op : Int} (h7 : 7 ≤ op) (h12 : op ≤ 12) (x y : Int) : opVal op x y = tv (relB op x y) := by
  rcases (show op = 7 ∨ op = 8 ∨ op = 9 ∨ op = 10 ∨ op = 11 ∨ op = 12 by omega) with rfl | rfl | rfl | rfl | rfl | rfl <;> rfl
theorem rel_opFits {op : Int} (h7 : 7 ≤ op) (h12 : op ≤ 12) (x y : Int) : opFits op x y = true := by
  rcases (show op = 7 ∨ op = 8 ∨ op = 9 ∨ op = 10 ∨ op = 11 ∨ op = 12 by omega) with rfl | rfl | rfl | rfl | rfl | rfl <;> rfl

theorem rel_same {op a b c d : Int} (h7 : 7 ≤ op) (h12 : op ≤ 12) (hab : ¬ b < a) (hcd : ¬ d < c) : iv (tv (!canB (contraryV op) a b c d)) (tv (canB op a b c d)) = hullV op (tellX op a b c d) (tellY op a b c d) := by
  have hx := (tellX_len op a b c d).1
  have hy := (tellY_len op a b c d (fun h => by omega)).1
  have hf : fitsV op (tellX op a b c d) (tellY op a b c d) = true := fitsV_iff.2 fun x _ y _ => rel_opFits h7 h12 x y
  rcases hullV_is (op := op) hx hy with ⟨_, lo, hi, e, hh⟩ | ⟨h, _⟩
  · rw [e]
    have tin : ∀ z, z ∈ valsV op (tellX op a b c d) (tellY op a b c d) → ∃ x y, a ≤ x ∧ x ≤ b ∧ c ≤ y ∧ y ≤ d ∧ z = tv (relB op x y) := fun z hz => by
      obtain ⟨x, hx, y, hy, rfl⟩ := mem_valsV.1 hz
      obtain ⟨x1, x2⟩ := tellX_in (by omega) hx
      obtain ⟨y1, y2⟩ := tellY_in (by omega) hy
      exact ⟨x, y, x1, x2, y1, y2, rel_opVal h7 h12 x y⟩
    rcases hh with ⟨hn, _⟩ | ⟨m1, m2, m3⟩
    · obtain ⟨z, r, hz⟩ := vals_some (op := op) hx hy
      exact absurd (by rw [hz]; simp) (hn z)
    · obtain ⟨x, y, x1, x2, y1, y2, e1⟩ := tin _ m1
      obtain ⟨x', y', x1', x2', y1', y2', e2⟩ := tin _ m2
      -- the greatest
      have top : hi = tv (canB op a b c d) := by
        cases hc : canB op a b c d with
        | true =>
          obtain ⟨u, v, u1, u2, v1, v2, huv⟩ := (can_iff h7 h12 hab hcd).1 hc
          obtain ⟨_, ⟨p, hp, q, hq, e3⟩⟩ := rel_corners h7 h12 u1 u2 v1 v2
          have := m3 _ (mem_valsV.2 ⟨p, hp, q, hq, rfl⟩)
          rw [rel_opVal h7 h12, e3 huv] at this
          rw [e2] at this ⊢
          cases hr : relB op x' y' with
          | true => rfl
          | false => rw [hr] at this; simp [tv] at this
        | false =>
          rw [e2]
          cases hr : relB op x' y' with
          | false => rfl
          | true =>
            have := (can_iff h7 h12 hab hcd).2 ⟨x', y', x1', x2', y1', y2', hr⟩
            rw [hc] at this; cases this
      have bot : lo = tv (!canB (contraryV op) a b c d) := by
        obtain ⟨k1, k2⟩ := contrary_in h7 h12
        cases hc : canB (contraryV op) a b c d with
        | true =>
          obtain ⟨u, v, u1, u2, v1, v2, huv⟩ := (can_iff k1 k2 hab hcd).1 hc
          rw [rel_contrary h7 h12] at huv
          obtain ⟨⟨p, hp, q, hq, e3⟩, _⟩ := rel_corners h7 h12 u1 u2 v1 v2
          have := m3 _ (mem_valsV.2 ⟨p, hp, q, hq, rfl⟩)
          have hpq : relB op p q = false := by
            cases hpq : relB op p q with
            | false => rfl
            | true => rw [e3 hpq] at huv; cases huv
          rw [rel_opVal h7 h12, hpq] at this
          rw [e1] at this ⊢
          cases hr : relB op x y with
          | false => rfl
          | true => rw [hr] at this; simp [tv] at this
        | false =>
          rw [e1]
          cases hr : relB op x y with
          | true => rfl
          | false =>
            have := (can_iff k1 k2 hab hcd).2 ⟨x, y, x1, x2, y1, y2, by rw [rel_contrary h7 h12, hr]; rfl⟩
            rw [hc] at this; cases this
      rw [top, bot]
  · rw [hf] at h; cases h

/-! ### operators of truth values -/
theorem bits_hull {op a0 a1 b0 b1 : Int} (h13 : 13 ≤ op) (h15 : op ≤ 15) (ha : 0 ≤ a0 ∧ a0 ≤ a1 ∧ a1 ≤ 1) (hb : 0 ≤ b0 ∧ b0 ≤ b1 ∧ b1 ≤ 1) :
    ∃ lo hi, rangeV op a0 a1 b0 b1 = .agg #[.int .i64 lo, .int .i64 hi] ∧ Hull (Done op a0 a1 b0 b1 (a1 + 1) b0) lo hi := by
  have n1 : ¬ (¬ (1 ≤ op ∧ op ≤ 18) ∨ a1 < a0 ∨ (unaryB op = false ∧ b1 < b0)) := by omega
  have l1 : liesB a0 a1 0 1 = true := (lies01 (by omega)).2 (by omega)
  have l2 : liesB b0 b1 0 1 = true := (lies01 (by omega)).2 (by omega)
  have er : rangeV op a0 a1 b0 b1 = hullV op (tellX op a0 a1 b0 b1) (tellY op a0 a1 b0 b1) := by
    unfold rangeV
    rw [if_neg n1, if_neg (by omega), if_neg (by omega), if_neg (by omega), if_neg (fun h => h.2 ⟨l1, l2⟩)]
  have hfit : fitsV op (tellX op a0 a1 b0 b1) (tellY op a0 a1 b0 b1) = true := fitsV_iff.2 fun x _ y _ => by
    rcases (show op = 13 ∨ op = 14 ∨ op = 15 by omega) with rfl | rfl | rfl <;> rfl
  have hx := (tellX_len op a0 a1 b0 b1).1
  have hy := (tellY_len op a0 a1 b0 b1 (fun h => by omega)).1
  rcases hullV_is (op := op) hx hy with ⟨_, lo, hi, e, hh⟩ | ⟨h, _⟩
  · refine ⟨lo, hi, by rw [er, e]; rfl, hh.congr fun z => ?_⟩
    constructor
    · intro hz
      obtain ⟨x, hx, y, hy, rfl⟩ := mem_valsV.1 hz
      obtain ⟨x1, x2⟩ := tellX_in (by omega) hx
      obtain ⟨y1, y2⟩ := tellY_in (by omega) hy
      exact ⟨x, y, x1, x2, y1, y2, decide_eq_true ⟨by omega, by omega, by omega⟩, by omega, rfl⟩
    · rintro ⟨x, y, x1, x2, y1, y2, _, _, rfl⟩
      refine mem_valsV.2 ⟨x, ?_, y, ?_, rfl⟩
      · rcases (show x = a0 ∨ x = a1 by omega) with rfl | rfl
        · exact (x_first op x a1 b0 b1).1
        · exact (x_first op a0 x b0 b1).2
      · rcases (show y = b0 ∨ y = b1 by omega) with rfl | rfl
        · exact (y_first (by omega) a0 a1 y b1).1
        · exact (y_first (by omega) a0 a1 b0 y).2
  · rw [hfit] at h; cases h

end Go.Proofs.YtdbfaekdkjclcaaDoor
