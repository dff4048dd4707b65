
/-
  THE LAW NumRange: package num's interval of an operator is the reference's.
-/
import Derived.Test.YtdbfaekdkjclcaaDoorNumQr1
import Derived.Test.YtdbfaekdkjclcaaDoorNumQr2
import Derived.Test.YtdbfaekdkjclcaaDoorNumQr3
import Derived.Test.YtdbfaekdkjclcaaDoorNumQr4
import Derived.Test.YtdbfaekdkjclcaaDoorNumQr5
import Derived.Test.YtdbfaekdkjclcaaDoorNumQr6
import Derived.Test.YtdbfaekdkjclcaaDoorNumXw
import Derived.Test.YtdbfaekdkjclcaaDoorNumRa
namespace Go.Proofs.YtdbfaekdkjclcaaDoor
open Go Go.RowKit

theorem rangeV_in {op a b c d : Int} (h1 : 1 ≤ op) (h2 : op ≤ 18) (hab : ¬ b < a) (hcd : ¬ (unaryB op = false ∧ d < c)) (hz : ¬ ((4 ≤ op ∧ op ≤ 6) ∧ c = 0 ∧ d = 0)) (h5 : ¬ op = 5) (h6 : ¬ op = 6) (hb : ¬ ((13 ≤ op ∧ op ≤ 15) ∧ ¬ (liesB a b 0 1 = true ∧ liesB c d 0 1 = true))) : rangeV op a b c d = hullV op (tellX op a b c d) (tellY op a b c d) := by
  unfold rangeV
  rw [if_neg (fun h => by rcases h with h | h | h; exact h ⟨h1, h2⟩; exact hab h; exact hcd h), if_neg hz, if_neg h5, if_neg h6, if_neg hb]
theorem rangeV_none {op a b c d : Int} (h : ¬ (1 ≤ op ∧ op ≤ 18) ∨ b < a ∨ (unaryB op = false ∧ d < c)) : rangeV op a b c d = iv 1 0 := by
  unfold rangeV
  rw [if_pos h]
theorem rangeV_zero {op a b c d : Int} (h : (4 ≤ op ∧ op ≤ 6) ∧ c = 0 ∧ d = 0) : rangeV op a b c d = iv 1 0 := by
  unfold rangeV
  by_cases h0 : ¬ (1 ≤ op ∧ op ≤ 18) ∨ b < a ∨ (unaryB op = false ∧ d < c)
  · rw [if_pos h0]
  · rw [if_neg h0, if_pos h]

/-- THE REFERENCE's Range, whatever its arguments. -/
theorem rrange_any (op a b c d : Int) (w : World) (h0 : 0 ≤ op) (ia : I64 a) (ib : I64 b) (ic : I64 c) (id : I64 d) : Calls Tryd.prog 8 #[.int .u8 op, .agg #[.int .i64 a, .int .i64 b], .agg #[.int .i64 c, .int .i64 d]] w (Gives w (rangeV op a b c d)) := by
  by_cases hab : b < a
  · rw [rangeV_none (Or.inr (Or.inl hab))]; exact rrange_empty1 a b c d op hab w
  by_cases hcd : unaryB op = false ∧ d < c
  · rw [rangeV_none (Or.inr (Or.inr hcd))]; exact rrange_empty2 a b c d op hab hcd.2 hcd.1 w
  by_cases hk : 1 ≤ op ∧ op ≤ 18
  · obtain ⟨h1, h2⟩ := hk
    by_cases hu : op = 16 ∨ op = 17 ∨ op = 18
    · rw [rangeV_in h1 h2 hab hcd (by omega) (by omega) (by omega) (by omega)]
      rcases hu with rfl | rfl | rfl
      · rw [← neg_same]; exact rrange_16 a b c d hab ia ib w
      · rw [← abs_same ia ib hab]
        by_cases hm : a = -9223372036854775808
        · rw [if_pos hm]; exact rrange_17_least a b c d hab (beq_iff_eq.2 hm) w
        · rw [if_neg hm]; exact rrange_17 a b c d hab ia ib hm w
      · rw [← not_same]; exact rrange_18 a b c d hab ia ib w
    have hun : unaryB op = false := decide_eq_false (by omega)
    have hcd' : ¬ d < c := fun h => hcd ⟨hun, h⟩
    by_cases hz : (4 ≤ op ∧ op ≤ 6) ∧ c = 0 ∧ d = 0
    · rw [rangeV_zero hz]
      obtain ⟨ho, rfl, rfl⟩ := hz
      rcases (show op = 4 ∨ op = 5 ∨ op = 6 by omega) with rfl | rfl | rfl
      · exact rrange_4_zero a b 0 0 hab (by omega) rfl rfl w
      · exact rrange_5_zero a b 0 0 hab (by omega) rfl rfl w
      · exact rrange_6_zero a b 0 0 hab (by omega) rfl rfl w
    by_cases h5 : op = 5
    · subst h5
      rw [show rangeV 5 a b c d = remV a b c d by unfold rangeV; rw [if_neg (fun h => by rcases h with h | h | h; omega; exact hab h; exact hcd h), if_neg hz, if_pos rfl]]
      exact rrange_5 a b c d hab hcd' ic id (by omega) w
    by_cases h6 : op = 6
    · subst h6
      rw [show rangeV 6 a b c d = modIV a b c d by unfold rangeV; rw [if_neg (fun h => by rcases h with h | h | h; omega; exact hab h; exact hcd h), if_neg hz, if_neg h5, if_pos rfl]]
      exact rrange_6 a b c d hab hcd' ic id (by omega) w
    by_cases hl : 13 ≤ op
    · rcases (show op = 13 ∨ op = 14 ∨ op = 15 by omega) with rfl | rfl | rfl
      · exact rrange_13 a b c d hab hcd' w
      · exact rrange_14 a b c d hab hcd' w
      · exact rrange_15 a b c d hab hcd' w
    rw [rangeV_in h1 h2 hab hcd hz h5 h6 (by omega)]
    by_cases h7 : 7 ≤ op
    · rw [← rel_same h7 (by omega) hab hcd']
      rcases (show op = 7 ∨ op = 8 ∨ op = 9 ∨ op = 10 ∨ op = 11 ∨ op = 12 by omega) with rfl | rfl | rfl | rfl | rfl | rfl
      · exact rrange_7 a b c d hab hcd' w
      · exact rrange_8 a b c d hab hcd' w
      · exact rrange_9 a b c d hab hcd' w
      · exact rrange_10 a b c d hab hcd' w
      · exact rrange_11 a b c d hab hcd' w
      · exact rrange_12 a b c d hab hcd' w
    · rcases (show op = 1 ∨ op = 2 ∨ op = 3 ∨ op = 4 by omega) with rfl | rfl | rfl | rfl
      · exact rrange_1 a b c d hab hcd' ia ib ic id w
      · exact rrange_2 a b c d hab hcd' ia ib ic id w
      · exact rrange_3 a b c d hab hcd' ia ib ic id w
      · rw [← div_same ic id hcd' (by omega)]
        refine rrange_4 a b c d hab hcd' ia ib ic id (fun h => ?_) w
        have hne := divL_some ic id hcd' (by omega)
        cases hl' : divL c d with
        | nil => exact hne hl'
        | cons y r =>
          have hy : y ∈ rdivL c d := (rdiv_mem ic id hcd').2 (by rw [hl']; simp)
          rw [h] at hy; cases hy
  · rw [rangeV_none (Or.inl hk)]
    have hun : unaryB op = false := decide_eq_false (by omega)
    exact rrange_none a b c d op (by omega) hab (fun h => hcd ⟨hun, h⟩) w

set_option maxHeartbeats 4000000 in
theorem law_numRange (op a0 a1 b0 b1 : Int) (w : World) (L : Laid w) (ho : 0 ≤ op ∧ op ≤ 255) (ia0 : I64 a0) (ia1 : I64 a1) (ib0 : I64 b0) (ib1 : I64 b1) :
    Calls Tryd.prog 3 #[.int .u8 op, .agg #[.int .i64 a0, .int .i64 a1], .agg #[.int .i64 b0, .int .i64 b1]] w (Gives w (.bool true)) := by
  have h0 := ho.1
  clear ho
  have HL := Lib.hid L
  clear L
  have huv : rangeV op a0 a1 b0 b1 = .agg #[.int .i64 (rLo op a0 a1 b0 b1), .int .i64 (rHi op a0 a1 b0 b1)] := range_eq _ _ _ _ _
  generalize rLo op a0 a1 b0 b1 = u at huv
  generalize rHi op a0 a1 b0 b1 = v at huv
  have HR := Lib.hid huv
  clear huv
  have B0 := Lib.hid (show Below w.heap.size w ((w.alloc (.cells #[.int .i64 a0, .int .i64 a1] 24)).alloc (.cells #[.int .i64 b0, .int .i64 b1] 24)) from by go_grown)
  go_enter Tryd.func3, Tryd.ntmps3
  go_wp2_with fail
  refine wp_region_held_drew (S := fun w' => w'.cell? ⟨w.heap.size, 0, none⟩ = some (.int .i64 a0) ∧ w'.cell? ⟨w.heap.size, 1, none⟩ = some (.int .i64 a1) ∧ w'.cell? ⟨w.heap.size + 1, 0, none⟩ = some (.int .i64 b0) ∧ w'.cell? ⟨w.heap.size + 1, 1, none⟩ = some (.int .i64 b1)) (by kernel_rfl) ⟨by go_cell, by go_cell, by go_cell, by go_cell⟩ (fun hHeld => ?_)
  have HB4 := Lib.hid (show Below w.heap.size w (_ : World).drew from Below.drew B0.out)
  refine wpAnyH_take (i := 0) (v := ?_) (by simp only [List.getElem?_toArray, List.getElem?_cons_zero]; rfl) (by kernel_rfl) (by kernel_rfl) (by kernel_rfl) (by exact fun _ _ _ h => h) (Or.inl ⟨by rfl, ?_⟩) (by assumption) ?_
  rotate_left
  · (intro w' hSw; (try dsimp only at hSw); go_simp; try with_reducible rfl)
  try simp only [Act.put, List.setIfInBounds_toArray, List.set_cons_zero, List.set_cons_succ]
  refine wpAnyH_take (i := 1) (v := ?_) (by simp only [List.getElem?_toArray, List.getElem?_cons_zero, List.getElem?_cons_succ]; rfl) (by kernel_rfl) (by kernel_rfl) (by kernel_rfl) (by exact fun _ _ _ h => h) (Or.inl ⟨by rfl, ?_⟩) (by assumption) ?_
  rotate_left
  · (intro w' hSw; (try dsimp only at hSw); go_simp; try with_reducible rfl)
  try simp only [Act.put, List.setIfInBounds_toArray, List.set_cons_zero, List.set_cons_succ]
  refine wpAnyH_take (i := 2) (v := ?_) (by simp only [List.getElem?_toArray, List.getElem?_cons_zero, List.getElem?_cons_succ]; rfl) (by kernel_rfl) (by kernel_rfl) (by kernel_rfl) (by exact fun _ _ _ h => h) (Or.inl ⟨by rfl, ?_⟩) (by assumption) ?_
  rotate_left
  · (intro w' hSw; (try dsimp only at hSw); go_simp; try with_reducible rfl)
  try simp only [Act.put, List.setIfInBounds_toArray, List.set_cons_zero, List.set_cons_succ]
  refine wpAnyH_take (i := 4) (v := ?_) (by simp only [List.getElem?_toArray, List.getElem?_cons_zero, List.getElem?_cons_succ]; rfl) (by kernel_rfl) (by kernel_rfl) (by kernel_rfl) (by exact fun _ _ _ h => h) (Or.inl ⟨by rfl, ?_⟩) (by assumption) ?_
  rotate_left
  · (intro w' hSw; (try dsimp only at hSw); go_simp; try with_reducible rfl)
  try simp only [Act.put, List.setIfInBounds_toArray, List.set_cons_zero, List.set_cons_succ]
  refine wpAnyH_take (i := 5) (v := ?_) (by simp only [List.getElem?_toArray, List.getElem?_cons_zero, List.getElem?_cons_succ]; rfl) (by kernel_rfl) (by kernel_rfl) (by kernel_rfl) (by exact fun _ _ _ h => h) (Or.inl ⟨by rfl, ?_⟩) (by assumption) ?_
  rotate_left
  · (intro w' hSw; (try dsimp only at hSw); go_simp; try with_reducible rfl)
  try simp only [Act.put, List.setIfInBounds_toArray, List.set_cons_zero, List.set_cons_succ]
  refine wpAnyH_take (i := 6) (v := ?_) (by simp only [List.getElem?_toArray, List.getElem?_cons_zero, List.getElem?_cons_succ]; rfl) (by kernel_rfl) (by kernel_rfl) (by kernel_rfl) (by exact fun _ _ _ h => h) (Or.inl ⟨by rfl, ?_⟩) (by assumption) ?_
  rotate_left
  · (intro w' hSw; (try dsimp only at hSw); go_simp; try with_reducible rfl)
  try simp only [Act.put, List.setIfInBounds_toArray, List.set_cons_zero, List.set_cons_succ]
  refine wpAnyH_ready (rs := [3]) (by kernel_rfl) (by simp) ?_
  refine AllReadyH.cons (by simp only [List.getElem?_toArray, List.getElem?_cons_zero, List.getElem?_cons_succ]; rfl) (fun K hK => ?_) (AllReadyH.nil)
  go_simp
  refine (range_any op a0 a1 b0 b1 _ (HL.out.after HB4.out) h0 ib0 ib1).mono ?_; rw [HR.out]; rintro e w5 ⟨rfl, hb⟩
  go_wp2_with fail
  refine hK.out _ _ ⟨keepC hb hHeld.1, keepC hb hHeld.2.1, keepC hb hHeld.2.2.1, keepC hb hHeld.2.2.2⟩ (fun hNext => ?_)
  clear hHeld hK K
  have hHeld := hNext
  clear hNext
  try simp only [Act.put, List.setIfInBounds_toArray, List.set_cons_zero, List.set_cons_succ]
  have HB5 := Lib.hid (after HB4.out hb)
  clear hb
  refine wpAnyH_ready (rs := [7]) (by kernel_rfl) (by simp) ?_
  refine AllReadyH.cons (by simp only [List.getElem?_toArray, List.getElem?_cons_zero, List.getElem?_cons_succ]; rfl) (fun K hK => ?_) (AllReadyH.nil)
  go_simp
  refine (rrange_any op a0 a1 b0 b1 _ h0 ia0 ia1 ib0 ib1).mono ?_; rw [HR.out]; rintro e w6 ⟨rfl, hb⟩
  go_wp2_with fail
  refine hK.out _ _ ⟨keepC hb hHeld.1, keepC hb hHeld.2.1, keepC hb hHeld.2.2.1, keepC hb hHeld.2.2.2⟩ (fun hNext => ?_)
  clear hHeld hK K
  have hHeld := hNext
  clear hNext
  try simp only [Act.put, List.setIfInBounds_toArray, List.set_cons_zero, List.set_cons_succ]
  have HB6 := Lib.hid (after HB5.out hb)
  clear hb
  refine wpAnyH_take (i := 8) (v := ?_) (by simp only [List.getElem?_toArray, List.getElem?_cons_zero, List.getElem?_cons_succ]; rfl) (by kernel_rfl) (by kernel_rfl) (by kernel_rfl) (by exact fun _ _ _ h => h) (Or.inl ⟨by rfl, ?_⟩) (by assumption) ?_
  rotate_left
  · (intro w' hSw; (try dsimp only at hSw); go_simp; try with_reducible rfl)
  try simp only [Act.put, List.setIfInBounds_toArray, List.set_cons_zero, List.set_cons_succ]
  refine wpAnyH_take (i := 9) (v := ?_) (by simp only [List.getElem?_toArray, List.getElem?_cons_zero, List.getElem?_cons_succ]; rfl) (by kernel_rfl) (by kernel_rfl) (by kernel_rfl) (by exact fun _ _ _ h => h) (Or.inl ⟨by rfl, ?_⟩) (by assumption) ?_
  rotate_left
  · (intro w' hSw; (try dsimp only at hSw); go_simp; try with_reducible rfl)
  try simp only [Act.put, List.setIfInBounds_toArray, List.set_cons_zero, List.set_cons_succ]
  refine wpAnyH_ready (rs := [10]) (by kernel_rfl) (by simp) ?_
  refine AllReadyH.cons (by simp only [List.getElem?_toArray, List.getElem?_cons_zero, List.getElem?_cons_succ]; rfl) (fun K hK => ?_) (AllReadyH.nil)
  go_simp
  refine (head_true _ (HL.out.after HB6.out)).mono ?_; rintro e w7 ⟨rfl, hb⟩
  go_wp2_with fail
  refine hK.out _ _ ⟨keepC hb hHeld.1, keepC hb hHeld.2.1, keepC hb hHeld.2.2.1, keepC hb hHeld.2.2.2⟩ (fun hNext => ?_)
  clear hHeld hK K
  have hHeld := hNext
  clear hNext
  try simp only [Act.put, List.setIfInBounds_toArray, List.set_cons_zero, List.set_cons_succ]
  have HB7 := Lib.hid (after HB6.out hb)
  clear hb
  refine wpAnyH_take (i := 11) (v := ?_) (by simp only [List.getElem?_toArray, List.getElem?_cons_zero, List.getElem?_cons_succ]; rfl) (by kernel_rfl) (by kernel_rfl) (by kernel_rfl) (by exact fun _ _ _ h => h) (Or.inl ⟨by rfl, ?_⟩) (by assumption) ?_
  rotate_left
  · (intro w' hSw; (try dsimp only at hSw); go_simp; try with_reducible rfl)
  try simp only [Act.put, List.setIfInBounds_toArray, List.set_cons_zero, List.set_cons_succ]
  refine wpAnyH_take (i := 12) (v := ?_) (by simp only [List.getElem?_toArray, List.getElem?_cons_zero, List.getElem?_cons_succ]; rfl) (by kernel_rfl) (by kernel_rfl) (by kernel_rfl) (by exact fun _ _ _ h => h) (Or.inl ⟨by rfl, ?_⟩) (by assumption) ?_
  rotate_left
  · (intro w' hSw; (try dsimp only at hSw); go_simp; try with_reducible rfl)
  try simp only [Act.put, List.setIfInBounds_toArray, List.set_cons_zero, List.set_cons_succ]
  refine wpAnyH_done (by kernel_rfl) ?_ _
  go_wp2
  go_returns
  exact ⟨rfl, HB7.out⟩

end Go.Proofs.YtdbfaekdkjclcaaDoor
