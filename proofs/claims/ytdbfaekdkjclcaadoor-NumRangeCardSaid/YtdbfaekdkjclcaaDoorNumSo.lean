
/-
  THE INTERVAL OF AN OPERATOR CONTAINS THE VALUE OF ANY OPERANDS OF BOTH INTERVALS, AND GROWS WITH THEM.
-/
import Derived.Test.YtdbfaekdkjclcaaDoorNumSn
namespace Go.Proofs.YtdbfaekdkjclcaaDoor
open Go Go.RowKit

def hLo (op : Int) (xs ys : List Int) : Int := if fitsV op xs ys = true then minL ((valsV op xs ys).getD 0 0) (valsV op xs ys) else -9223372036854775808
def hHi (op : Int) (xs ys : List Int) : Int := if fitsV op xs ys = true then maxL ((valsV op xs ys).getD 0 0) (valsV op xs ys) else 9223372036854775807
theorem hull_eq (op : Int) (xs ys : List Int) : hullV op xs ys = iv (hLo op xs ys) (hHi op xs ys) := by
  unfold hullV hLo hHi
  split <;> rfl
def rLo (op a b c d : Int) : Int :=
  if ¬ (1 ≤ op ∧ op ≤ 18) ∨ b < a ∨ (unaryB op = false ∧ d < c) then 1
  else if (4 ≤ op ∧ op ≤ 6) ∧ c = 0 ∧ d = 0 then 1
  else if op = 5 then min 0 (max a (-(remM c d))) else if op = 6 then modLo a b c d
  else if (13 ≤ op ∧ op ≤ 15) ∧ ¬ (liesB a b 0 1 = true ∧ liesB c d 0 1 = true) then -9223372036854775808
  else hLo op (tellX op a b c d) (tellY op a b c d)
def rHi (op a b c d : Int) : Int :=
  if ¬ (1 ≤ op ∧ op ≤ 18) ∨ b < a ∨ (unaryB op = false ∧ d < c) then 0
  else if (4 ≤ op ∧ op ≤ 6) ∧ c = 0 ∧ d = 0 then 0
  else if op = 5 then max 0 (min b (remM c d)) else if op = 6 then modHi a b c d
  else if (13 ≤ op ∧ op ≤ 15) ∧ ¬ (liesB a b 0 1 = true ∧ liesB c d 0 1 = true) then 9223372036854775807
  else hHi op (tellX op a b c d) (tellY op a b c d)
theorem range_eq (op a b c d : Int) : rangeV op a b c d = iv (rLo op a b c d) (rHi op a b c d) := by
  unfold rangeV rLo rHi
  by_cases h1 : ¬ (1 ≤ op ∧ op ≤ 18) ∨ b < a ∨ (unaryB op = false ∧ d < c)
  · simp only [if_pos h1]
  · simp only [if_neg h1]
    by_cases h2 : (4 ≤ op ∧ op ≤ 6) ∧ c = 0 ∧ d = 0
    · simp only [if_pos h2]
    · simp only [if_neg h2]
      by_cases h3 : op = 5
      · simp only [if_pos h3]; rfl
      · simp only [if_neg h3]
        by_cases h4 : op = 6
        · simp only [if_pos h4]; rfl
        · simp only [if_neg h4]
          by_cases h5 : (13 ≤ op ∧ op ≤ 15) ∧ ¬ (liesB a b 0 1 = true ∧ liesB c d 0 1 = true)
          · simp only [if_pos h5]
          · simp only [if_neg h5]
            exact hull_eq _ _ _

theorem lies01 {a b : Int} (h : ¬ b < a) : liesB a b 0 1 = true ↔ 0 ≤ a ∧ b ≤ 1 := by
  unfold liesB
  rw [decide_eq_true_iff]
  omega

/-- An operator's value is an int64. -/
theorem val_I64 {op x y : Int} (h1 : 1 ≤ op) (h2 : op ≤ 18) (h5 : ¬ op = 5) (h6 : ¬ op = 6) (hx : I64v x) : I64v (opVal op x y) := by
  have ht : ∀ t : Bool, I64v (tv t) := fun t => by cases t <;> simp [tv, I64v]
  have hb : ∀ (o : BinOp), I64v (bits o .i64 x y) := fun o => by
    exact bounds_i64 (wf_bits o .i64 x y)
  have habs : I64v (absV x) := by
    unfold absV
    split
    · exact hx
    · exact wrap_I64 _
  rcases (show op = 1 ∨ op = 2 ∨ op = 3 ∨ op = 4 ∨ op = 7 ∨ op = 8 ∨ op = 9 ∨ op = 10 ∨ op = 11 ∨ op = 12 ∨ op = 13 ∨ op = 14 ∨ op = 15 ∨ op = 16 ∨ op = 17 ∨ op = 18 by omega) with rfl | rfl | rfl | rfl | rfl | rfl | rfl | rfl | rfl | rfl | rfl | rfl | rfl | rfl | rfl | rfl
  · rw [opVal_1]; exact wrap_I64 _
  · rw [opVal_2]; exact wrap_I64 _
  · rw [opVal_3]; exact wrap_I64 _
  · rw [opVal_4]; exact wrap_I64 _
  · rw [opVal_7]; exact ht _
  · rw [opVal_8]; exact ht _
  · rw [opVal_9]; exact ht _
  · rw [opVal_10]; exact ht _
  · rw [opVal_11]; exact ht _
  · rw [opVal_12]; exact ht _
  · rw [opVal_13]; exact hb _
  · rw [opVal_14]; exact hb _
  · rw [opVal_15]; exact hb _
  · rw [opVal_16]; exact wrap_I64 _
  · rw [opVal_17]; exact habs
  · rw [opVal_18]; exact wrap_I64 _

/-- Where the operands stand of which the hull is made. -/
theorem tell_I64 {op a b c d : Int} (ha : I64v a) (hb : I64v b) (hc : I64v c) (hd : I64v d) : (∀ u ∈ tellX op a b c d, I64v u) ∧ (∀ v ∈ tellY op a b c d, I64v v) := by
  have hmx : I64v (max a c) := by unfold I64v at *; omega
  have h0 : I64v 0 := by unfold I64v; omega
  constructor
  · intro u hu
    unfold tellX at hu
    split at hu
    · split at hu <;> simp at hu <;> rcases hu with rfl | rfl | rfl <;> assumption
    · split at hu
      · split at hu <;> simp at hu <;> rcases hu with rfl | rfl | rfl <;> assumption
      · simp at hu; rcases hu with rfl | rfl <;> assumption
  · intro u hu
    unfold tellY at hu
    split at hu
    · unfold divL at hu
      unfold I64v at *
      rw [List.mem_append] at hu
      rcases hu with hu | hu
      · split at hu
        · simp at hu
        · simp at hu; omega
      · split at hu
        · simp at hu
        · simp at hu; omega
    · split at hu
      · split at hu <;> simp at hu <;> rcases hu with rfl | rfl | rfl <;> assumption
      · simp at hu; rcases hu with rfl | rfl <;> assumption

/-- An operator whose exact value is its value. -/
theorem ex_val {op x y : Int} (h : ¬ (op = 1 ∨ op = 2 ∨ op = 3 ∨ op = 4 ∨ op = 16 ∨ op = 17 ∨ op = 18)) : exV op x y = opVal op x y ∧ opFits op x y = true := by
  unfold exV opFits
  constructor
  · rw [if_neg (by omega), if_neg (by omega), if_neg (by omega), if_neg (by omega), if_neg (by omega), if_neg (by omega), if_neg (by omega)]
  · rw [if_neg (by omega), if_neg (by omega), if_neg (by omega), if_neg (by omega), if_neg (by omega), if_neg (by omega), if_neg (by omega)]

/-- If a value fits, then it is the exact one. -/
theorem fit_val {op x y : Int} (h1 : 1 ≤ op) (h2 : op ≤ 18) (h5 : ¬ op = 5) (h6 : ¬ op = 6) (hx : I64v x) (hy : I64v y) (hd : op = 4 → ¬ y = 0) (h : opFits op x y = true) : opVal op x y = exV op x y ∧ I64v (exV op x y) := by
  by_cases ho : op = 1 ∨ op = 2 ∨ op = 3 ∨ op = 4 ∨ op = 16 ∨ op = 17 ∨ op = 18
  · obtain ⟨f, e⟩ := fits_iff op hx hy hd ho
    have := f.1 h
    exact ⟨by rw [e, wrap_id this], this⟩
  · obtain ⟨e, _⟩ := ex_val (x := x) (y := y) ho
    exact ⟨e.symm, by rw [e]; exact val_I64 h1 h2 h5 h6 hx⟩
theorem val_fit {op x y : Int} (hx : I64v x) (hy : I64v y) (hd : op = 4 → ¬ y = 0) (h : I64v (exV op x y)) : opFits op x y = true ∧ opVal op x y = exV op x y := by
  by_cases ho : op = 1 ∨ op = 2 ∨ op = 3 ∨ op = 4 ∨ op = 16 ∨ op = 17 ∨ op = 18
  · obtain ⟨f, e⟩ := fits_iff op hx hy hd ho
    exact ⟨f.2 h, by rw [e, wrap_id h]⟩
  · obtain ⟨e, g⟩ := ex_val (x := x) (y := y) ho
    exact ⟨g, e.symm⟩

/-- THE HULL CONTAINS THE VALUES. -/
theorem hull_sound {op a b c d x y : Int} (h1 : 1 ≤ op) (h2 : op ≤ 18) (h5 : ¬ op = 5) (h6 : ¬ op = 6) (ha : I64v a) (hb : I64v b) (hc : I64v c) (hd : I64v d)
    (hx1 : a ≤ x) (hx2 : x ≤ b) (hy1 : c ≤ y) (hy2 : y ≤ d) (hz : op = 4 → ¬ y = 0) (hl : 13 ≤ op ∧ op ≤ 15 → 0 ≤ a ∧ b ≤ 1 ∧ 0 ≤ c ∧ d ≤ 1)
    (hf : fitsV op (tellX op a b c d) (tellY op a b c d) = true) :
    opFits op x y = true ∧ minL ((valsV op (tellX op a b c d) (tellY op a b c d)).getD 0 0) (valsV op (tellX op a b c d) (tellY op a b c d)) ≤ opVal op x y ∧ opVal op x y ≤ maxL ((valsV op (tellX op a b c d) (tellY op a b c d)).getD 0 0) (valsV op (tellX op a b c d) (tellY op a b c d)) := by
  have hx : I64v x := by unfold I64v at *; omega
  have hy : I64v y := by unfold I64v at *; omega
  obtain ⟨t1, t2⟩ := tell_I64 (op := op) ha hb hc hd
  have hne : ∀ v ∈ tellY op a b c d, op = 4 → ¬ v = 0 := fun v hv h => by
    subst h
    exact divL_ne hv
  obtain ⟨⟨u, hu, v, hv, e1⟩, ⟨u', hu', v', hv', e2⟩⟩ := corners (op := op) h1 h2 h5 h6 hx1 hx2 hy1 hy2 hc hd hz hl
  obtain ⟨f1, g1⟩ := fit_val h1 h2 h5 h6 (t1 u hu) (t2 v hv) (hne v hv) (fits_mem hf hu hv)
  obtain ⟨f2, g2⟩ := fit_val h1 h2 h5 h6 (t1 u' hu') (t2 v' hv') (hne v' hv') (fits_mem hf hu' hv')
  have hI : I64v (exV op x y) := by unfold I64v at *; omega
  obtain ⟨k1, k2⟩ := val_fit hx hy hz hI
  refine ⟨k1, ?_, ?_⟩
  · exact Int.le_trans (minL_le _ _ _ (mem_vals (op := op) hu hv)) (by rw [f1, k2]; exact e1)
  · exact Int.le_trans (by rw [f2, k2]; exact e2) (le_maxL _ _ _ (mem_vals (op := op) hu' hv'))

theorem rem_bounds {a b c d x y : Int} (hx1 : a ≤ x) (hx2 : x ≤ b) (hy1 : c ≤ y) (hy2 : y ≤ d) (hy0 : ¬ y = 0) : min 0 (max a (-(remM c d))) ≤ x.tmod y ∧ x.tmod y ≤ max 0 (min b (remM c d)) := by
  have hm : belowV y ≤ remM c d := by
    unfold remM belowV
    split <;> split <;> split <;> omega
  have hb : belowV y = (y.natAbs : Int) - 1 := by
    unfold belowV
    split <;> omega
  have hlt : (x.tmod y).natAbs < y.natAbs := by
    rw [Int.natAbs_tmod]
    exact Nat.mod_lt _ (by omega)
  have hle : (x.tmod y).natAbs ≤ x.natAbs := by
    rw [Int.natAbs_tmod]
    exact Nat.mod_le _ _
  by_cases h0 : 0 ≤ x
  · have := Int.tmod_nonneg y h0
    omega
  · have h7 : x.tmod y ≤ 0 := by
      have := Int.tmod_nonneg y (a := -x) (by omega)
      rw [Int.neg_tmod] at this
      omega
    omega

theorem mod_bounds {a b c d x y : Int} (hx1 : a ≤ x) (hx2 : x ≤ b) (hy1 : c ≤ y) (hy2 : y ≤ d) (hy0 : ¬ y = 0) (hy : I64v y) : modLo a b c d ≤ modV x y ∧ modV x y ≤ modHi a b c d := by
  have hlt : (x.tmod y).natAbs < y.natAbs := by
    rw [Int.natAbs_tmod]
    exact Nat.mod_lt _ (by omega)
  have hle : (x.tmod y).natAbs ≤ x.natAbs := by
    rw [Int.natAbs_tmod]
    exact Nat.mod_le _ _
  have hs1 : 0 ≤ x → 0 ≤ x.tmod y := fun h => Int.tmod_nonneg y h
  have hs2 : x ≤ 0 → x.tmod y ≤ 0 := fun h => by
    have := Int.tmod_nonneg y (a := -x) (by omega)
    rw [Int.neg_tmod] at this
    omega
  have e : modV x y = if ¬ x.tmod y = 0 ∧ ¬ (x.tmod y < 0 ↔ y < 0) then x.tmod y + y else x.tmod y := by
    unfold modV
    split
    · exact wrap_id (by unfold I64v at *; omega)
    · rfl
  rw [e]
  generalize x.tmod y = r at *
  unfold modLo modHi modLo0 modHi0
  by_cases h1 : ¬ r = 0 ∧ ¬ (r < 0 ↔ y < 0)
  · rw [if_pos h1]
    constructor
    · split <;> split <;> omega
    · split <;> split <;> omega
  · rw [if_neg h1]
    constructor
    · split <;> split <;> omega
    · split <;> split <;> omega

/-- WITH ONE OPERAND IN EACH INTERVAL the operands of the hull are these. -/
theorem tell_same {op x y : Int} (_hx : I64v x) (hy : I64v y) (hz : op = 4 → ¬ y = 0) : (x ∈ tellX op x x y y ∧ ∀ u ∈ tellX op x x y y, u = x) ∧ (y ∈ tellY op x x y y ∧ ∀ v ∈ tellY op x x y y, v = y) := by
  refine ⟨⟨(x_first op x x y y).1, ?_⟩, ?_⟩
  · intro u hu
    unfold tellX at hu
    split at hu
    · split at hu
      · rename_i h
        have h := of_decide_eq_true h
        simp at hu
        omega
      · simpa using hu
    · split at hu
      · split at hu
        · simpa using hu
        · simp at hu; omega
      · simpa using hu
  · by_cases h4 : op = 4
    · have hy0 := hz h4
      have e : tellY op x x y y = divL y y := by unfold tellY; rw [if_pos h4]
      rw [e]
      unfold divL
      unfold I64v at hy
      by_cases hn : y < 0
      · rw [if_neg (show ¬ min y (-1) < max y (-9223372036854775808) by omega), if_pos (show min y 9223372036854775807 < max y 1 by omega)]
        rw [show max y (-9223372036854775808) = y by omega, show min y (-1) = y by omega]
        simp
      · rw [if_pos (show min y (-1) < max y (-9223372036854775808) by omega), if_neg (show ¬ min y 9223372036854775807 < max y 1 by omega)]
        rw [show min y 9223372036854775807 = y by omega, show max y 1 = y by omega]
        simp
    · refine ⟨(y_first h4 x x y y).1, ?_⟩
      intro u hu
      unfold tellY at hu
      rw [if_neg h4] at hu
      split at hu
      · split at hu
        · simpa using hu
        · simp at hu; omega
      · simpa using hu

theorem hull_point {op x y : Int} (hx : I64v x) (hy : I64v y) (hz : op = 4 → ¬ y = 0) :
    (opFits op x y = true → hLo op (tellX op x x y y) (tellY op x x y y) = opVal op x y ∧ hHi op (tellX op x x y y) (tellY op x x y y) = opVal op x y)
    ∧ (¬ opFits op x y = true → hLo op (tellX op x x y y) (tellY op x x y y) = -9223372036854775808 ∧ hHi op (tellX op x x y y) (tellY op x x y y) = 9223372036854775807) := by
  obtain ⟨⟨mx, ax⟩, ⟨my, ay⟩⟩ := tell_same (op := op) hx hy hz
  have hv : ∀ z ∈ valsV op (tellX op x x y y) (tellY op x x y y), z = opVal op x y := fun z h => by
    obtain ⟨u, hu, v, hv, rfl⟩ := vals_mem h
    rw [ax u hu, ay v hv]
  have hg : (valsV op (tellX op x x y y) (tellY op x x y y)).getD 0 0 = opVal op x y := by
    have hm := mem_vals (op := op) mx my
    cases hL : valsV op (tellX op x x y y) (tellY op x x y y) with
    | nil => rw [hL] at hm; cases hm
    | cons z r => exact hv z (by rw [hL]; simp)
  constructor
  · intro h
    have hf : fitsV op (tellX op x x y y) (tellY op x x y y) = true := by
      refine List.all_eq_true.2 fun u hu => List.all_eq_true.2 fun v hv => ?_
      rw [ax u hu, ay v hv]
      exact h
    unfold hLo hHi
    rw [if_pos hf, if_pos hf]
    exact ⟨minL_const hg hv, maxL_const hg hv⟩
  · intro h
    have hf : ¬ fitsV op (tellX op x x y y) (tellY op x x y y) = true := fun hh => h (fits_mem hh mx my)
    unfold hLo hHi
    rw [if_neg hf, if_neg hf]
    exact ⟨rfl, rfl⟩

/-- SOUND: the value is in the interval; the interval of a smaller pair is in that of a greater. -/
theorem range_sound {op a b c d x y : Int} (h1 : 1 ≤ op) (h2 : op ≤ 18) (ha : I64v a) (hb : I64v b) (hc : I64v c) (hd : I64v d)
    (hx1 : a ≤ x) (hx2 : x ≤ b) (hy1 : c ≤ y) (hy2 : y ≤ d) (hz : 4 ≤ op ∧ op ≤ 6 → ¬ y = 0) :
    (rLo op a b c d ≤ opVal op x y ∧ opVal op x y ≤ rHi op a b c d) ∧ (rLo op a b c d ≤ rLo op x x y y ∧ rHi op x x y y ≤ rHi op a b c d) := by
  have hx : I64v x := by unfold I64v at *; omega
  have hy : I64v y := by unfold I64v at *; omega
  have hz4 : op = 4 → ¬ y = 0 := fun h => hz (by omega)
  have n1 : ¬ (¬ (1 ≤ op ∧ op ≤ 18) ∨ b < a ∨ (unaryB op = false ∧ d < c)) := by omega
  have n2 : ¬ ((4 ≤ op ∧ op ≤ 6) ∧ c = 0 ∧ d = 0) := fun h => hz h.1 (by omega)
  have n3 : ¬ (¬ (1 ≤ op ∧ op ≤ 18) ∨ x < x ∨ (unaryB op = false ∧ y < y)) := by omega
  have n4 : ¬ ((4 ≤ op ∧ op ≤ 6) ∧ y = 0 ∧ y = 0) := fun h => hz h.1 h.2.1
  unfold rLo rHi
  rw [if_neg n1, if_neg n1, if_neg n2, if_neg n2, if_neg n3, if_neg n3, if_neg n4, if_neg n4]
  by_cases h5 : op = 5
  · subst h5
    simp only [if_pos]
    rw [opVal_5]
    have hy0 := hz (by omega)
    refine ⟨rem_bounds hx1 hx2 hy1 hy2 hy0, ?_⟩
    have hm : belowV y ≤ remM c d := by
      unfold remM belowV
      split <;> split <;> split <;> omega
    have e : remM y y = belowV y := by unfold remM; omega
    rw [e]
    omega
  · by_cases h6 : op = 6
    · subst h6
      simp only [if_neg h5, if_pos]
      rw [opVal_6]
      have hy0 := hz (by omega)
      refine ⟨mod_bounds hx1 hx2 hy1 hy2 hy0 hy, ?_⟩
      unfold modLo modHi modLo0 modHi0
      constructor
      · split <;> split <;> split <;> split <;> omega
      · split <;> split <;> split <;> split <;> omega
    · simp only [if_neg h5, if_neg h6]
      have hvI := val_I64 (y := y) h1 h2 h5 h6 hx
      obtain ⟨p1, p2⟩ := hull_point (op := op) hx hy hz4
      have hp : (-9223372036854775808 ≤ hLo op (tellX op x x y y) (tellY op x x y y)) ∧ hHi op (tellX op x x y y) (tellY op x x y y) ≤ 9223372036854775807 := by
        by_cases hf : opFits op x y = true
        · obtain ⟨q1, q2⟩ := p1 hf
          unfold I64v at hvI
          omega
        · obtain ⟨q1, q2⟩ := p2 hf
          omega
      by_cases hl : (13 ≤ op ∧ op ≤ 15) ∧ ¬ (liesB a b 0 1 = true ∧ liesB c d 0 1 = true)
      · simp only [if_pos hl]
        unfold I64v at hvI
        refine ⟨hvI, ?_⟩
        split
        · omega
        · exact hp
      · simp only [if_neg hl]
        have hl2 : 13 ≤ op ∧ op ≤ 15 → 0 ≤ a ∧ b ≤ 1 ∧ 0 ≤ c ∧ d ≤ 1 := fun h => by
          have hh : liesB a b 0 1 = true ∧ liesB c d 0 1 = true := Decidable.byContradiction fun hn => hl ⟨h, hn⟩
          have k1 := (lies01 (show ¬ b < a by omega)).1 hh.1
          have k2 := (lies01 (show ¬ d < c by omega)).1 hh.2
          omega
        have hl3 : ¬ ((13 ≤ op ∧ op ≤ 15) ∧ ¬ (liesB x x 0 1 = true ∧ liesB y y 0 1 = true)) := fun h => h.2 (by
          obtain ⟨k1, k2, k3, k4⟩ := hl2 h.1
          exact ⟨(lies01 (Int.lt_irrefl x)).2 (by omega), (lies01 (Int.lt_irrefl y)).2 (by omega)⟩)
        simp only [if_neg hl3]
        by_cases hf : fitsV op (tellX op a b c d) (tellY op a b c d) = true
        · obtain ⟨s1, s2, s3⟩ := hull_sound h1 h2 h5 h6 ha hb hc hd hx1 hx2 hy1 hy2 hz4 hl2 hf
          obtain ⟨q1, q2⟩ := p1 s1
          rw [q1, q2]
          have e1 : hLo op (tellX op a b c d) (tellY op a b c d) = minL ((valsV op (tellX op a b c d) (tellY op a b c d)).getD 0 0) (valsV op (tellX op a b c d) (tellY op a b c d)) := by unfold hLo; rw [if_pos hf]
          have e2 : hHi op (tellX op a b c d) (tellY op a b c d) = maxL ((valsV op (tellX op a b c d) (tellY op a b c d)).getD 0 0) (valsV op (tellX op a b c d) (tellY op a b c d)) := by unfold hHi; rw [if_pos hf]
          rw [e1, e2]
          exact ⟨⟨s2, s3⟩, ⟨s2, s3⟩⟩
        · have e1 : hLo op (tellX op a b c d) (tellY op a b c d) = -9223372036854775808 := by unfold hLo; rw [if_neg hf]
          have e2 : hHi op (tellX op a b c d) (tellY op a b c d) = 9223372036854775807 := by unfold hHi; rw [if_neg hf]
          rw [e1, e2]
          unfold I64v at hvI
          exact ⟨hvI, hp⟩

/-- The interval of an empty operand. -/
theorem range_none {op a b c d : Int} (h : b < a ∨ d < c) : (¬ b < a ∧ (op = 16 ∨ op = 17 ∨ op = 18)) ∨ rHi op a b c d < rLo op a b c d := by
  by_cases h1 : ¬ b < a ∧ (op = 16 ∨ op = 17 ∨ op = 18)
  · exact Or.inl h1
  · right
    have hu : ¬ b < a → 1 ≤ op ∧ op ≤ 18 → unaryB op = false := fun h2 h3 => decide_eq_false (fun h4 => h1 ⟨h2, by omega⟩)
    have n1 : ¬ (1 ≤ op ∧ op ≤ 18) ∨ b < a ∨ (unaryB op = false ∧ d < c) := by
      by_cases k1 : b < a
      · exact Or.inr (Or.inl k1)
      · by_cases k2 : 1 ≤ op ∧ op ≤ 18
        · exact Or.inr (Or.inr ⟨hu k1 k2, by omega⟩)
        · exact Or.inl k2
    unfold rLo rHi
    rw [if_pos n1, if_pos n1]
    omega

end Go.Proofs.YtdbfaekdkjclcaaDoor
