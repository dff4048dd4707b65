
/-
  WHY THE INTERVAL OF AN OPERATOR CONTAINS THE VALUES: corners of sums, products, quotients, relations. No walk stands here.
-/
import Derived.Test.YtdbfaekdkjclcaaDoorNumPm
import Derived.Test.YtdbfaekdkjclcaaDoorNumRm
namespace Go.Proofs.YtdbfaekdkjclcaaDoor
open Go Go.RowKit

theorem i64_iff {v : Int} : I64 v ↔ I64v v := Iff.rfl

/-- The exact value. -/
def exV (op x y : Int) : Int :=
  if op = 1 then x + y else if op = 2 then x - y else if op = 3 then x * y else if op = 4 then x.tdiv y else if op = 16 then 0 - x else if op = 17 then (if 0 ≤ x then x else 0 - x) else if op = 18 then 1 - x else opVal op x y

theorem add_iff {a b : Int} (ha : I64v a) (hb : I64v b) : addFits a b = true ↔ I64v (a + b) := by
  unfold I64v at *
  simp only [addFits, beq_iff_eq, decide_eq_decide]
  unfold wrap64
  omega
theorem sub_iff {a b : Int} (ha : I64v a) (hb : I64v b) : subFits a b = true ↔ I64v (a - b) := by
  unfold I64v at *
  simp only [subFits, beq_iff_eq, decide_eq_decide]
  unfold wrap64
  omega
theorem mul_iff {a b : Int} (ha : I64v a) (hb : I64v b) : mulFits a b = true ↔ I64v (a * b) := by
  by_cases h0 : b = 0
  · subst h0
    simp [mulFits, I64v]
  · simp only [mulFits, Bool.or_eq_true, Bool.and_eq_true, beq_iff_eq, Bool.not_eq_true', Bool.and_eq_false_iff, beq_eq_false_iff_ne]
    constructor
    · rintro (h | ⟨h, h'⟩)
      · exact absurd h h0
      · exact mul_fits ha hb h (fun hh => by rcases h' with h' | h'; exact h' hh.1; exact h' hh.2) h0
    · intro h
      obtain ⟨h1, h2⟩ := mul_fits' ha h h0
      refine Or.inr ⟨h1, ?_⟩
      by_cases h3 : a = -9223372036854775808
      · exact Or.inr (fun h4 => h2 ⟨h3, h4⟩)
      · exact Or.inl h3
theorem div_iff {a b : Int} (ha : I64v a) (hb : ¬ b = 0) : divFits a b = true ↔ I64v (a.tdiv b) := by
  simp only [divFits, Bool.not_eq_true', Bool.and_eq_false_iff, beq_eq_false_iff_ne]
  constructor
  · intro h
    rcases tdiv_I64 ha hb with h1 | ⟨h1, h2⟩
    · exact h1
    · exfalso
      rcases h with h | h
      · exact h h1
      · exact h h2
  · intro h
    by_cases h1 : a = -9223372036854775808
    · right
      intro h2
      subst h1 h2
      have : (-9223372036854775808 : Int).tdiv (-1) = 9223372036854775808 := by decide
      rw [this] at h
      unfold I64v at h
      omega
    · exact Or.inl h1

/-- Does an operator's value fit exactly when the exact one does? And is it that? -/
theorem fits_iff (op : Int) {x y : Int} (hx : I64v x) (hy : I64v y) (hd : op = 4 → ¬ y = 0) (ho : op = 1 ∨ op = 2 ∨ op = 3 ∨ op = 4 ∨ op = 16 ∨ op = 17 ∨ op = 18) :
    (opFits op x y = true ↔ I64v (exV op x y)) ∧ opVal op x y = wrap64 (exV op x y) := by
  have h0 : I64v 0 := by unfold I64v; omega
  have h1 : I64v 1 := by unfold I64v; omega
  rcases ho with rfl | rfl | rfl | rfl | rfl | rfl | rfl
  · exact ⟨add_iff hx hy, rfl⟩
  · exact ⟨sub_iff hx hy, rfl⟩
  · exact ⟨mul_iff hx hy, rfl⟩
  · exact ⟨div_iff hx (hd rfl), rfl⟩
  · exact ⟨sub_iff h0 hx, rfl⟩
  · show (absFits x = true ↔ I64v (if 0 ≤ x then x else 0 - x)) ∧ absV x = wrap64 (if 0 ≤ x then x else 0 - x)
    unfold absFits absV
    by_cases h : 0 ≤ x
    · simp only [if_pos h]
      exact ⟨by simp [hx], (wrap_id hx).symm⟩
    · simp only [if_neg h]
      exact ⟨sub_iff h0 hx, by first | trivial | rfl⟩
  · exact ⟨sub_iff h1 hx, rfl⟩

/-! ### the least and the greatest of a list -/
theorem minL_le_head (f : Int) (zs : List Int) : minL f zs ≤ f := by
  unfold minL
  induction zs generalizing f with
  | nil => exact Int.le_refl _
  | cons z r ih =>
    exact Int.le_trans (ih (if z < f then z else f)) (by split <;> omega)
theorem minL_le (f : Int) (zs : List Int) : ∀ z ∈ zs, minL f zs ≤ z := by
  induction zs generalizing f with
  | nil => intro z hz; cases hz
  | cons z r ih =>
    intro u hu
    have e : minL f (z :: r) = minL (if z < f then z else f) r := rfl
    rw [e]
    rcases List.mem_cons.1 hu with rfl | hu
    · exact Int.le_trans (minL_le_head (if u < f then u else f) r) (by split <;> omega)
    · exact ih _ u hu
theorem le_maxL_head (f : Int) (zs : List Int) : f ≤ maxL f zs := by
  unfold maxL
  induction zs generalizing f with
  | nil => exact Int.le_refl _
  | cons z r ih =>
    exact Int.le_trans (by split <;> omega) (ih (if f < z then z else f))
theorem le_maxL (f : Int) (zs : List Int) : ∀ z ∈ zs, z ≤ maxL f zs := by
  induction zs generalizing f with
  | nil => intro z hz; cases hz
  | cons z r ih =>
    intro u hu
    have e : maxL f (z :: r) = maxL (if f < z then z else f) r := rfl
    rw [e]
    rcases List.mem_cons.1 hu with rfl | hu
    · exact Int.le_trans (by split <;> omega) (le_maxL_head (if f < u then u else f) r)
    · exact ih _ u hu
theorem minL_const {f v : Int} {zs : List Int} (hf : f = v) (h : ∀ z ∈ zs, z = v) : minL f zs = v := by
  subst hf
  induction zs with
  | nil => rfl
  | cons z r ih =>
    obtain rfl := h z (by simp)
    have e : minL z (z :: r) = minL (if z < z then z else z) r := rfl
    rw [e, if_neg (Int.lt_irrefl z)]
    exact ih (fun u hu => h u (by simp [hu]))
theorem maxL_const {f v : Int} {zs : List Int} (hf : f = v) (h : ∀ z ∈ zs, z = v) : maxL f zs = v := by
  subst hf
  induction zs with
  | nil => rfl
  | cons z r ih =>
    obtain rfl := h z (by simp)
    have e : maxL z (z :: r) = maxL (if z < z then z else z) r := rfl
    rw [e, if_neg (Int.lt_irrefl z)]
    exact ih (fun u hu => h u (by simp [hu]))

theorem mem_vals {op : Int} {xs ys : List Int} {u v : Int} (hu : u ∈ xs) (hv : v ∈ ys) : opVal op u v ∈ valsV op xs ys :=
  List.mem_flatMap.2 ⟨u, hu, List.mem_map.2 ⟨v, hv, rfl⟩⟩
theorem fits_mem {op : Int} {xs ys : List Int} (h : fitsV op xs ys = true) {u v : Int} (hu : u ∈ xs) (hv : v ∈ ys) : opFits op u v = true := by
  have := List.all_eq_true.1 h u hu
  exact List.all_eq_true.1 this v hv
theorem vals_mem {op : Int} {xs ys : List Int} {z : Int} (h : z ∈ valsV op xs ys) : ∃ u ∈ xs, ∃ v ∈ ys, z = opVal op u v := by
  obtain ⟨u, hu, hz⟩ := List.mem_flatMap.1 h
  obtain ⟨v, hv, rfl⟩ := List.mem_map.1 hz
  exact ⟨u, hu, v, hv, rfl⟩

end Go.Proofs.YtdbfaekdkjclcaaDoor
