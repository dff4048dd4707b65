
/-
  'telling' of package num where the operator is a quotient or an absolute value.
-/
import Derived.Test.YtdbfaekdkjclcaaDoorNumT
import Derived.Test.YtdbfaekdkjclcaaDoorNumDv
namespace Go.Proofs.YtdbfaekdkjclcaaDoor
open Go Go.RowKit

theorem cell_up {w : World} {b i : Nat} {v : Value} {o : Obj} (h : w.cell? ⟨b, i, none⟩ = some v) : (w.alloc o).cell? ⟨b, i, none⟩ = some v := keepC ((Below.refl _ _).alloc (Nat.le_refl _) o) h

def divL (c d : Int) : List Int :=
  (if min d (-1) < max c (-9223372036854775808) then [] else [max c (-9223372036854775808), min d (-1)]) ++ (if min d 9223372036854775807 < max c 1 then [] else [max c 1, min d 9223372036854775807])

/-- Every divisor is one. -/
theorem divL_ne {c d y : Int} (h : y ∈ divL c d) : ¬ y = 0 := by
  unfold divL at h
  rw [List.mem_append] at h
  rcases h with h | h
  · split at h
    · cases h
    · rename_i hn
      simp only [List.mem_cons, List.not_mem_nil, or_false] at h
      omega
  · split at h
    · cases h
    · rename_i hn
      simp only [List.mem_cons, List.not_mem_nil, or_false] at h
      omega

theorem divisors_any (c d : Int) (w : World) (L : Laid w) (hne : divL c d ≠ []) :
    Calls Tryd.prog 50 #[.agg #[.int .i64 c, .int .i64 d]] w fun e w' => ∃ b n cap, e = .returned (.slice (some ⟨b, 0, none⟩) n cap) ∧ Ints w' b n (divL c d) ∧ 1 ≤ n ∧ n ≤ 4 ∧ Below w.heap.size w w' := by
  by_cases h1 : min d (-1) < max c (-9223372036854775808)
  · by_cases h2 : min d 9223372036854775807 < max c 1
    · exact absurd (by rw [divL, if_pos h1, if_pos h2]; rfl) hne
    · rw [show divL c d = [max c 1, min d 9223372036854775807] by rw [divL, if_pos h1, if_neg h2]; rfl]
      refine (divisors_p c d 1 0 (max c 1) (min d 9223372036854775807) w L (by rw [meetV, if_pos h1]; rfl) (by rw [meetV, if_neg h2]; rfl) (by omega) h2).mono ?_
      rintro e w' ⟨b, cap, rfl, hi, hb⟩
      exact ⟨b, 2, cap, rfl, hi, by omega, by omega, hb⟩
  · by_cases h2 : min d 9223372036854775807 < max c 1
    · rw [show divL c d = [max c (-9223372036854775808), min d (-1)] by rw [divL, if_neg h1, if_pos h2]; rfl]
      refine (divisors_n c d (max c (-9223372036854775808)) (min d (-1)) 1 0 w L (by rw [meetV, if_neg h1]; rfl) (by rw [meetV, if_pos h2]; rfl) h1 (by omega)).mono ?_
      rintro e w' ⟨b, cap, rfl, hi, hb⟩
      exact ⟨b, 2, cap, rfl, hi, by omega, by omega, hb⟩
    · rw [show divL c d = [max c (-9223372036854775808), min d (-1), max c 1, min d 9223372036854775807] by rw [divL, if_neg h1, if_neg h2]; rfl]
      refine (divisors_np c d (max c (-9223372036854775808)) (min d (-1)) (max c 1) (min d 9223372036854775807) w L (by rw [meetV, if_neg h1]; rfl) (by rw [meetV, if_neg h2]; rfl) h1 h2).mono ?_
      rintro e w' ⟨b, cap, rfl, hi, hb⟩
      exact ⟨b, 4, cap, rfl, hi, by omega, by omega, hb⟩

set_option maxHeartbeats 1000000 in
/-- A quotient: the divisors that matter. -/
theorem telling_div (a b c d : Int) (w : World) (L : Laid w) (hne : divL c d ≠ []) :
    Calls Tryd.prog 24 #[.int .u8 4, .agg #[.int .i64 a, .int .i64 b], .agg #[.int .i64 c, .int .i64 d]] w (fun e w' => Tells w [a, b] (divL c d) e w') := by
  have HL := Lib.hid L
  have HN := Lib.hid hne
  clear L hne
  go_enter Tryd.func24, Tryd.ntmps24
  go_wp2
  go_region_held3 (fun w' => w'.cell? ⟨w.heap.size, 0, none⟩ = some (.int .i64 a) ∧ w'.cell? ⟨w.heap.size, 1, none⟩ = some (.int .i64 b) ∧ w'.cell? ⟨w.heap.size + 1, 0, none⟩ = some (.int .i64 c) ∧ w'.cell? ⟨w.heap.size + 1, 1, none⟩ = some (.int .i64 d)) (refine ⟨?_, ?_, ?_, ?_⟩ <;> go_cell) (fail)
  all_goals
    go_wp2_with fail
    refine (divisors_any _ _ _ (HL.out.after (by go_grown)) HN.out).mono ?_; rintro e w' ⟨g, n, cap, rfl, hi, hn1, hn2, hb⟩
    have HI := Lib.hid hi
    have HB := Lib.hid hb
    clear hi hb
    go_wp2_with fail
    go_returns
    refine ⟨_, _, _, _, _, _, rfl, ints_two ?_ ?_, HI.out, ?_⟩
    all_goals first | (refine keepC HB.out ?_; go_cell) | (refine after ?_ HB.out; go_grown)

theorem own_two {w : World} {base g : Nat} {u v : Value} (h : w.heap[g]? = some (.cells #[u, v] 2 (0, 0))) (hb : base ≤ g) : w.ownsRow base 2 1 (.slice (some ⟨g, 0, none⟩) 2 2) 2 [u, v] :=
  ⟨rfl, .inr ⟨g, 2, #[u, v], rfl, hb, h, Nat.le_refl _, by unfold maxLen; omega, rfl, rfl⟩⟩
theorem heap_third (w : World) (A B C D : Obj) : ((((w.alloc A).alloc B).alloc C).alloc D).drew.heap[w.heap.size + 1 + 1]? = some C ∧ ((((w.alloc A).alloc B).alloc C).alloc D).drew.heap[w.heap.size + 1 + 1 + 1]? = some D := by
  have e : ((((w.alloc A).alloc B).alloc C).alloc D).drew.heap = (((w.heap.push A).push B).push C).push D := rfl
  constructor
  · rw [e]; simp only [Array.getElem?_push, Array.size_push]; rw [if_neg (by omega), if_pos trivial]
  · rw [e]; simp only [Array.getElem?_push, Array.size_push]; rw [if_pos trivial]
theorem ints_three {w : World} {base g cap : Nat} {x y z : Int} (h : w.ownsRow base 2 1 (.slice (some ⟨g, 0, none⟩) 3 cap) 3 [.int .i64 x, .int .i64 y, .int .i64 z]) : Ints w g 3 [x, y, z] := by
  refine ⟨rfl, fun i hi => ?_⟩
  rw [h.cellAt i (by omega)]
  rcases (show i = 0 ∨ i = 1 ∨ i = 2 by omega) with rfl | rfl | rfl <;> rfl

set_option maxHeartbeats 1000000 in
/-- An absolute value: 0, if it is there. -/
theorem telling_abs (a b c d : Int) (w : World) (h0 : hasB a b 0 = true) :
    Calls Tryd.prog 24 #[.int .u8 17, .agg #[.int .i64 a, .int .i64 b], .agg #[.int .i64 c, .int .i64 d]] w (fun e w' => Tells w [a, b, 0] [c, d] e w') := by
  obtain ⟨i0, hi, hz0, hz1, hz2⟩ := info_parts info64
  go_enter Tryd.func24, Tryd.ntmps24
  go_wp2
  go_region_held3 (fun w' => w'.cell? ⟨w.heap.size, 0, none⟩ = some (.int .i64 a) ∧ w'.cell? ⟨w.heap.size, 1, none⟩ = some (.int .i64 b) ∧ w'.cell? ⟨w.heap.size + 1, 0, none⟩ = some (.int .i64 c) ∧ w'.cell? ⟨w.heap.size + 1, 1, none⟩ = some (.int .i64 d)) (refine ⟨?_, ?_, ?_, ?_⟩ <;> go_cell) (fail)
  all_goals
    go_wp2_with fail
    refine (has_any _ _ _ _).mono ?_; rintro e w1 ⟨rfl, hb⟩; rw [h0]
  · have ho : Hid (w1.ownsRow (w.heap.size + 2) 2 1 (.slice (some ⟨w.heap.size + 1 + 1, 0, none⟩) 2 2) 2 [.int .i64 a, .int .i64 b]) := ownsRow_below (own_two (heap_third _ _ _ _ _).1 (by omega)) hb
    have hy : Hid (w1.cell? ⟨w.heap.size + 1 + 1 + 1, 0, none⟩ = some (.int .i64 c) ∧ w1.cell? ⟨w.heap.size + 1 + 1 + 1, 1, none⟩ = some (.int .i64 d)) := ⟨keepC hb (by go_cell), keepC hb (by go_cell)⟩
    have HB := Lib.hid hb
    have hs : w.heap.size + 4 ≤ w1.heap.size := by have := hb.size; simp at this; omega
    clear hb
    go_wp2_with (at_builtin; refine wpList_append_own _ rfl _ _ 45 rfl (w.heap.size + 2) 2 i0 (.int .i64 0) 1 8 Tryd.underlying45 hi hz0 hz1 hz2 rfl (by decide) _ _ _ rfl (ho.out.alloc _) ⟨w1.heap.size, 0, none⟩ 1 1 [.int .i64 0] rfl rfl ?k1 ?k2 ?k3 ?k4 ?k5 ?_)
    case k1 =>
      intro j u hj
      match j, hj with
      | 0, hj => simp at hj; subst hj; exact World.cell?_alloc_at _ _ _ _ (by simp)
    case k2 => intro u hu; simp at hu; subst hu; rfl
    case k3 => unfold maxLen; omega
    case k4 => omega
    case k5 => simp; omega
    intro v1 w2 hown1 hgrow1 _
    obtain ⟨g1, cap1, rfl⟩ := row_some (n := 2) hown1
    have O1 := Lib.hid hown1
    have G1 := Lib.hid hgrow1
    clear hown1 hgrow1
    go_wp2_with fail
    go_returns
    refine ⟨_, _, _, _, _, _, rfl, ints_three O1.out, ints_two (G1.out.cell ?_ ?_) (G1.out.cell ?_ ?_), Below.grown (boxed (after ?_ HB.out) _) G1.out ?_ ?_⟩
    · exact cell_up hy.out.1
    · simp [Value.ownBlock]
    · exact cell_up hy.out.2
    · simp [Value.ownBlock]
    · go_grown
    · simp only [World.size_alloc]; omega
    · intro k hk
      have := (ho.out.lt k hk).1
      omega
  · have ho : Hid (w1.ownsRow (w.heap.size + 2) 2 1 (.slice (some ⟨w.heap.size + 1 + 1 + 1, 0, none⟩) 2 2) 2 [.int .i64 a, .int .i64 b]) := ownsRow_below (own_two (heap_third _ _ _ _ _).2 (by omega)) hb
    have hy : Hid (w1.cell? ⟨w.heap.size + 1 + 1, 0, none⟩ = some (.int .i64 c) ∧ w1.cell? ⟨w.heap.size + 1 + 1, 1, none⟩ = some (.int .i64 d)) := ⟨keepC hb (by go_cell), keepC hb (by go_cell)⟩
    have HB := Lib.hid hb
    have hs : w.heap.size + 4 ≤ w1.heap.size := by have := hb.size; simp at this; omega
    clear hb
    go_wp2_with (at_builtin; refine wpList_append_own _ rfl _ _ 45 rfl (w.heap.size + 2) 2 i0 (.int .i64 0) 1 8 Tryd.underlying45 hi hz0 hz1 hz2 rfl (by decide) _ _ _ rfl (ho.out.alloc _) ⟨w1.heap.size, 0, none⟩ 1 1 [.int .i64 0] rfl rfl ?k1 ?k2 ?k3 ?k4 ?k5 ?_)
    case k1 =>
      intro j u hj
      match j, hj with
      | 0, hj => simp at hj; subst hj; exact World.cell?_alloc_at _ _ _ _ (by simp)
    case k2 => intro u hu; simp at hu; subst hu; rfl
    case k3 => unfold maxLen; omega
    case k4 => omega
    case k5 => simp; omega
    intro v1 w2 hown1 hgrow1 _
    obtain ⟨g1, cap1, rfl⟩ := row_some (n := 2) hown1
    have O1 := Lib.hid hown1
    have G1 := Lib.hid hgrow1
    clear hown1 hgrow1
    go_wp2_with fail
    go_returns
    refine ⟨_, _, _, _, _, _, rfl, ints_three O1.out, ints_two (G1.out.cell ?_ ?_) (G1.out.cell ?_ ?_), Below.grown (boxed (after ?_ HB.out) _) G1.out ?_ ?_⟩
    · exact cell_up hy.out.1
    · simp [Value.ownBlock]
    · exact cell_up hy.out.2
    · simp [Value.ownBlock]
    · go_grown
    · simp only [World.size_alloc]; omega
    · intro k hk
      have := (ho.out.lt k hk).1
      omega

end Go.Proofs.YtdbfaekdkjclcaaDoor
