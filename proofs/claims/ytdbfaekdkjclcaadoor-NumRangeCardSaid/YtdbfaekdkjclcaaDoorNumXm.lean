
/-
  THE LEAST INTERVAL: mathematics of NumExact.
-/
import Derived.Test.YtdbfaekdkjclcaaDoorNumSo
namespace Go.Proofs.YtdbfaekdkjclcaaDoor
open Go Go.RowKit

/-- (lo, hi) is the least interval that contains all of S. -/
def Hull (S : Int → Prop) (lo hi : Int) : Prop := ((∀ v, ¬ S v) ∧ lo = 1 ∧ hi = 0) ∨ (S lo ∧ S hi ∧ ∀ v, S v → lo ≤ v ∧ v ≤ hi)

theorem Hull.congr {S T : Int → Prop} {lo hi : Int} (h : Hull S lo hi) (e : ∀ v, S v ↔ T v) : Hull T lo hi := by
  rcases h with ⟨h1, h2, h3⟩ | ⟨h1, h2, h3⟩
  · exact Or.inl ⟨fun v hv => h1 v ((e v).2 hv), h2, h3⟩
  · exact Or.inr ⟨(e _).1 h1, (e _).1 h2, fun v hv => h3 v ((e v).2 hv)⟩

theorem Hull.join {S : Int → Prop} {lo hi : Int} (h : Hull S lo hi) (z : Int) : ∃ lo' hi', joinV lo hi z z = .agg #[.int .i64 lo', .int .i64 hi'] ∧ Hull (fun v => S v ∨ v = z) lo' hi' := by
  rcases h with ⟨h1, rfl, rfl⟩ | ⟨h1, h2, h3⟩
  · refine ⟨z, z, by unfold joinV; rw [if_pos (by omega), if_neg (by omega)]; rfl, Or.inr ⟨Or.inr rfl, Or.inr rfl, fun v hv => ?_⟩⟩
    rcases hv with hv | rfl
    · exact absurd hv (h1 v)
    · omega
  · have hle := h3 lo h1
    have hle2 := h3 hi h2
    refine ⟨min lo z, max hi z, by unfold joinV; rw [if_neg (by omega), if_neg (by omega)]; rfl, Or.inr ⟨?_, ?_, fun v hv => ?_⟩⟩
    · by_cases hz : lo ≤ z
      · rw [Int.min_eq_left hz]; exact Or.inl h1
      · rw [Int.min_eq_right (by omega)]; exact Or.inr rfl
    · by_cases hz : z ≤ hi
      · rw [Int.max_eq_left hz]; exact Or.inl h2
      · rw [Int.max_eq_right (by omega)]; exact Or.inr rfl
    · rcases hv with hv | rfl
      · have := h3 v hv; omega
      · omega

theorem Hull.uniq {S : Int → Prop} {lo hi lo' hi' : Int} (h : Hull S lo hi) (h' : Hull S lo' hi') : lo = lo' ∧ hi = hi' := by
  rcases h with ⟨h1, h2, h3⟩ | ⟨h1, h2, h3⟩
  · rcases h' with ⟨k1, k2, k3⟩ | ⟨k1, k2, k3⟩
    · omega
    · exact absurd k1 (h1 _)
  · rcases h' with ⟨k1, k2, k3⟩ | ⟨k1, k2, k3⟩
    · exact absurd h1 (k1 _)
    · have a1 := h3 _ k1
      have a2 := h3 _ k2
      have a3 := k3 _ h1
      have a4 := k3 _ h2
      omega

/-- The values of the operands that come before a pair. -/
def Done (op a0 a1 b0 b1 x y v : Int) : Prop := ∃ x' y', a0 ≤ x' ∧ x' ≤ a1 ∧ b0 ≤ y' ∧ y' ≤ b1 ∧ opHas op y' = true ∧ (x' < x ∨ x' = x ∧ y' < y) ∧ v = opVal op x' y'

theorem done_none (op a0 a1 b0 b1 v : Int) : ¬ Done op a0 a1 b0 b1 a0 b0 v := by
  rintro ⟨x', y', h1, h2, h3, h4, h5, h6, h7⟩
  omega
theorem done_next {op a0 a1 b0 b1 x y : Int} (h1 : a0 ≤ x) (h2 : x ≤ a1) (h3 : b0 ≤ y) (h4 : y ≤ b1) (v : Int) : Done op a0 a1 b0 b1 x (y + 1) v ↔ (Done op a0 a1 b0 b1 x y v ∨ (opHas op y = true ∧ v = opVal op x y)) := by
  constructor
  · rintro ⟨x', y', k1, k2, k3, k4, k5, k6, rfl⟩
    by_cases e : x' = x ∧ y' = y
    · obtain ⟨rfl, rfl⟩ := e
      exact Or.inr ⟨k5, rfl⟩
    · exact Or.inl ⟨x', y', k1, k2, k3, k4, k5, by omega, rfl⟩
  · rintro (⟨x', y', k1, k2, k3, k4, k5, k6, rfl⟩ | ⟨k1, rfl⟩)
    · exact ⟨x', y', k1, k2, k3, k4, k5, by omega, rfl⟩
    · exact ⟨x, y, h1, h2, h3, h4, k1, by omega, rfl⟩
theorem done_row {op a0 a1 b0 b1 x : Int} (v : Int) : Done op a0 a1 b0 b1 x (b1 + 1) v ↔ Done op a0 a1 b0 b1 (x + 1) b0 v := by
  constructor
  · rintro ⟨x', y', k1, k2, k3, k4, k5, k6, rfl⟩
    exact ⟨x', y', k1, k2, k3, k4, k5, by omega, rfl⟩
  · rintro ⟨x', y', k1, k2, k3, k4, k5, k6, rfl⟩
    exact ⟨x', y', k1, k2, k3, k4, k5, by omega, rfl⟩

/-! ### the interval of the operator is the hull -/
theorem minL_mem (f : Int) : ∀ zs : List Int, minL f zs = f ∨ minL f zs ∈ zs := by
  intro zs
  induction zs generalizing f with
  | nil => exact Or.inl rfl
  | cons z r ih =>
    have := ih (if z < f then z else f)
    show minL (if z < f then z else f) r = f ∨ minL (if z < f then z else f) r ∈ z :: r
    rcases this with h | h
    · rw [h]
      split
      · exact Or.inr (by simp)
      · exact Or.inl rfl
    · exact Or.inr (by simp [h])
theorem maxL_mem (f : Int) : ∀ zs : List Int, maxL f zs = f ∨ maxL f zs ∈ zs := by
  intro zs
  induction zs generalizing f with
  | nil => exact Or.inl rfl
  | cons z r ih =>
    have := ih (if f < z then z else f)
    show maxL (if f < z then z else f) r = f ∨ maxL (if f < z then z else f) r ∈ z :: r
    rcases this with h | h
    · rw [h]
      split
      · exact Or.inr (by simp)
      · exact Or.inl rfl
    · exact Or.inr (by simp [h])

theorem tellX_in {op a b c d u : Int} (hab : a ≤ b) (h : u ∈ tellX op a b c d) : a ≤ u ∧ u ≤ b := by
  unfold tellX at h
  split at h
  · split at h
    · rename_i h0
      have h0 := of_decide_eq_true h0
      simp at h; omega
    · simp at h; omega
  · split at h
    · split at h
      · simp at h; omega
      · simp at h; omega
    · simp at h; omega
theorem tellY_in {op a b c d u : Int} (hcd : c ≤ d) (h : u ∈ tellY op a b c d) : c ≤ u ∧ u ≤ d := by
  unfold tellY at h
  split at h
  · unfold divL at h
    rw [List.mem_append] at h
    rcases h with h | h
    · split at h
      · simp at h
      · simp at h; omega
    · split at h
      · simp at h
      · simp at h; omega
  · split at h
    · split at h
      · simp at h; omega
      · simp at h; omega
    · simp at h; omega

/-- The exact value of few operands is small. -/
theorem exV_small {op x y : Int} (hop1 : 1 ≤ op) (hop2 : op ≤ 18) (h5 : ¬ op = 5) (h6 : ¬ op = 6) (hb : ¬ (13 ≤ op ∧ op ≤ 15)) (h1 : -27 ≤ x) (h2 : x ≤ 27) (h3 : -27 ≤ y) (h4 : y ≤ 27) : I64v (exV op x y) := by
  have tvb : ∀ b : Bool, 0 ≤ tv b ∧ tv b ≤ 1 := fun b => by cases b <;> simp [tv]
  by_cases hr : 7 ≤ op ∧ op ≤ 12
  · rw [rel_val hr.1 hr.2]
    have := tvb (relB op x y)
    unfold I64v; omega
  · rcases (show op = 1 ∨ op = 2 ∨ op = 3 ∨ op = 4 ∨ op = 16 ∨ op = 17 ∨ op = 18 by omega) with rfl | rfl | rfl | rfl | rfl | rfl | rfl
    · show I64v (x + y); unfold I64v; omega
    · show I64v (x - y); unfold I64v; omega
    · show I64v (x * y)
      have e : (x * y).natAbs = x.natAbs * y.natAbs := Int.natAbs_mul x y
      have : x.natAbs * y.natAbs ≤ 27 * 27 := Nat.mul_le_mul (by omega) (by omega)
      unfold I64v; omega
    · show I64v (x.tdiv y)
      have e : (x.tdiv y).natAbs = x.natAbs / y.natAbs := Int.natAbs_tdiv x y
      have : x.natAbs / y.natAbs ≤ x.natAbs := Nat.div_le_self _ _
      unfold I64v; omega
    · show I64v (0 - x); unfold I64v; omega
    · show I64v (if 0 ≤ x then x else 0 - x)
      unfold I64v; split <;> omega
    · show I64v (1 - x); unfold I64v; omega

theorem range_hull {op a0 a1 b0 b1 : Int} (h0 : 0 ≤ op) (h5 : ¬ op = 5) (h6 : ¬ op = 6) (h13 : ¬ (13 ≤ op ∧ op ≤ 15)) (ha : -20 ≤ a0 ∧ a0 ≤ a1 ∧ a1 ≤ 27) (hb : -20 ≤ b0 ∧ b0 ≤ b1 ∧ b1 ≤ 27) :
    ∃ lo hi, rangeV op a0 a1 b0 b1 = .agg #[.int .i64 lo, .int .i64 hi] ∧ Hull (Done op a0 a1 b0 b1 (a1 + 1) b0) lo hi := by
  by_cases hex : ∃ y, b0 ≤ y ∧ y ≤ b1 ∧ opHas op y = true
  · obtain ⟨y, y1, y2, hy⟩ := hex
    obtain ⟨k1, k2, k3⟩ := of_decide_eq_true hy
    have I : ∀ z : Int, -27 ≤ z → z ≤ 27 → I64v z := fun z _ _ => by unfold I64v; omega
    have n1 : ¬ (¬ (1 ≤ op ∧ op ≤ 18) ∨ a1 < a0 ∨ (unaryB op = false ∧ b1 < b0)) := by omega
    have n2 : ¬ ((4 ≤ op ∧ op ≤ 6) ∧ b0 = 0 ∧ b1 = 0) := fun h => k3 ⟨h.1.1, h.1.2, by omega⟩
    have hne : op = 4 → divL b0 b1 ≠ [] := fun h => divL_some (I b0 (by omega) (by omega)) (I b1 (by omega) (by omega)) (by omega) (fun hh => n2 ⟨by omega, hh⟩)
    have hfit : fitsV op (tellX op a0 a1 b0 b1) (tellY op a0 a1 b0 b1) = true := by
      refine List.all_eq_true.2 fun u hu => List.all_eq_true.2 fun v hv => ?_
      have hu' := tellX_in ha.2.1 hu
      have hv' := tellY_in hb.2.1 hv
      refine (val_fit (I u (by omega) (by omega)) (I v (by omega) (by omega)) (fun h4 => ?_) (exV_small k1 k2 h5 h6 h13 (by omega) (by omega) (by omega) (by omega))).1
      subst h4
      exact divL_ne hv
    have hvals : ∀ z ∈ valsV op (tellX op a0 a1 b0 b1) (tellY op a0 a1 b0 b1), Done op a0 a1 b0 b1 (a1 + 1) b0 z := fun z hz => by
      obtain ⟨u, hu, v, hv, rfl⟩ := vals_mem hz
      have hu' := tellX_in ha.2.1 hu
      have hv' := tellY_in hb.2.1 hv
      refine ⟨u, v, hu'.1, hu'.2, hv'.1, hv'.2, decide_eq_true ⟨k1, k2, fun h => ?_⟩, by omega, rfl⟩
      obtain rfl : op = 4 := by omega
      exact divL_ne hv h.2.2
    have hlen : 1 ≤ (tellX op a0 a1 b0 b1).length ∧ 1 ≤ (tellY op a0 a1 b0 b1).length := ⟨(tellX_len op a0 a1 b0 b1).1, (tellY_len op a0 a1 b0 b1 hne).1⟩
    have hnil : ∃ z r, valsV op (tellX op a0 a1 b0 b1) (tellY op a0 a1 b0 b1) = z :: r := by
      have hl := length_valsV op (tellY op a0 a1 b0 b1) (tellX op a0 a1 b0 b1)
      cases hv : valsV op (tellX op a0 a1 b0 b1) (tellY op a0 a1 b0 b1) with
      | nil =>
        rw [hv] at hl
        have := Nat.mul_le_mul hlen.1 hlen.2
        simp at hl; omega
      | cons z r => exact ⟨z, r, rfl⟩
    refine ⟨rLo op a0 a1 b0 b1, rHi op a0 a1 b0 b1, range_eq op a0 a1 b0 b1, Or.inr ⟨?_, ?_, ?_⟩⟩
    · unfold rLo
      rw [if_neg n1, if_neg n2, if_neg h5, if_neg h6, if_neg (fun h => h13 h.1)]
      unfold hLo
      rw [if_pos hfit]
      obtain ⟨z, r, hz⟩ := hnil
      rw [hz] at hvals ⊢
      rcases minL_mem (List.getD (z :: r) 0 0) (z :: r) with h | h
      · rw [h]; exact hvals _ (by simp)
      · exact hvals _ h
    · unfold rHi
      rw [if_neg n1, if_neg n2, if_neg h5, if_neg h6, if_neg (fun h => h13 h.1)]
      unfold hHi
      rw [if_pos hfit]
      obtain ⟨z, r, hz⟩ := hnil
      rw [hz] at hvals ⊢
      rcases maxL_mem (List.getD (z :: r) 0 0) (z :: r) with h | h
      · rw [h]; exact hvals _ (by simp)
      · exact hvals _ h
    · rintro v ⟨x', y', e1, e2, e3, e4, e5, e6, rfl⟩
      obtain ⟨_, _, j3⟩ := of_decide_eq_true e5
      exact (range_sound k1 k2 (I a0 (by omega) (by omega)) (I a1 (by omega) (by omega)) (I b0 (by omega) (by omega)) (I b1 (by omega) (by omega)) e1 e2 e3 e4 (fun h4 hz => j3 ⟨h4.1, h4.2, hz⟩)).1
  · refine ⟨1, 0, ?_, Or.inl ⟨?_, rfl, rfl⟩⟩
    · by_cases hk : 1 ≤ op ∧ op ≤ 18
      · have h4 : op = 4 ∧ b0 = 0 ∧ b1 = 0 := by
          have hB : ∀ y, b0 ≤ y → y ≤ b1 → 4 ≤ op ∧ op ≤ 6 ∧ y = 0 := fun y g1 g2 => Decidable.byContradiction fun hn => hex ⟨y, g1, g2, decide_eq_true ⟨hk.1, hk.2, hn⟩⟩
          have l0 := hB b0 (Int.le_refl _) hb.2.1
          have l1 := hB b1 hb.2.1 (Int.le_refl _)
          omega
        obtain ⟨rfl, rfl, rfl⟩ := h4
        unfold rangeV
        rw [if_neg (by simp [unaryB]; omega), if_pos (by omega)]
        rfl
      · unfold rangeV
        rw [if_pos (Or.inl hk)]
        rfl
    · rintro v ⟨x', y', e1, e2, e3, e4, e5, _⟩
      exact hex ⟨y', e3, e4, e5⟩

end Go.Proofs.YtdbfaekdkjclcaaDoor
