
/-
  THE REFERENCE's Range, operator by operator.
-/
import Derived.Test.YtdbfaekdkjclcaaDoorNumQr
import Derived.Test.YtdbfaekdkjclcaaDoorNumQz
import Derived.Deep.RegionHeld3
namespace Go.Proofs.YtdbfaekdkjclcaaDoor
open Go Go.RowKit

set_option maxRecDepth 100000 in
set_option maxHeartbeats 8000000 in
theorem rrange_4_zero (a b c d : Int) (hab : ¬ b < a) (hcd : ¬ d < c) (z1 : c = 0) (z2 : d = 0) (w : World) : Calls Tryd.prog 8 #[.int .u8 4, .agg #[.int .i64 a, .int .i64 b], .agg #[.int .i64 c, .int .i64 d]] w (Gives w (.agg #[.int .i64 1, .int .i64 0])) := by
  subst z1 z2
  have ea : decide (b < a) = false := by simpa using hab
  have eb : decide ((0 : Int) < 0) = false := rfl
  have eu : unaryB 4 = false := rfl
  clear hab hcd
  have R0 := Lib.hid (FBox.start w a b 0 0)
  go_enter Tryd.func8, Tryd.ntmps8
  go_wp2_with fail
  refine (rempty_any _ _ _).mono ?_; rw [ea]; rintro e w1 ⟨rfl, hb⟩
  have R1 := Lib.hid (R0.out.below hb)
  clear hb
  obtain ⟨k0, k1, k2, k3, _, _⟩ := R1.out
  go_wp2_with fail
  refine (runary_any _ _).mono ?_; rw [eu]; rintro e w2 ⟨rfl, hb⟩
  have R2 := Lib.hid (R1.out.below hb)
  clear hb k0 k1 k2 k3
  obtain ⟨k0, k1, k2, k3, _, _⟩ := R2.out
  go_wp2_with fail
  refine (rempty_any _ _ _).mono ?_; rw [eb]; rintro e w3 ⟨rfl, hb⟩
  have R3 := Lib.hid (R2.out.below hb)
  clear hb k0 k1 k2 k3
  obtain ⟨k0, k1, k2, k3, _, _⟩ := R3.out
  clear R0 R1 R2
  go_wp2_with fail
  refine wp_region_held_drew (S := fun w' => w'.cell? ⟨w.heap.size, 0, none⟩ = some (.int .i64 a) ∧ w'.cell? ⟨w.heap.size, 1, none⟩ = some (.int .i64 b) ∧ w'.cell? ⟨w.heap.size + 1, 0, none⟩ = some (.int .i64 0) ∧ w'.cell? ⟨w.heap.size + 1, 1, none⟩ = some (.int .i64 0)) (by kernel_rfl) ⟨k0, k1, k2, k3⟩ (fun hHeld => ?_)
  have R4 := Lib.hid (R3.out.below (Below.drew (Below.refl _ _)))
  clear R3 k0 k1 k2 k3
  refine wpAnyH_take (i := 0) (v := ?_) (by simp only [List.getElem?_toArray, List.getElem?_cons_zero]; rfl) (by kernel_rfl) (by kernel_rfl) (by kernel_rfl) (by exact fun _ _ _ h => h) (Or.inl ⟨by rfl, ?_⟩) (by assumption) ?_
  rotate_left
  · (intro w' hSw; (try dsimp only at hSw); go_simp; try with_reducible rfl)
  try simp only [Act.put, List.setIfInBounds_toArray, List.set_cons_zero, List.set_cons_succ]
  refine wpAnyH_take (i := 1) (v := ?_) (by simp only [List.getElem?_toArray, List.getElem?_cons_zero, List.getElem?_cons_succ]; rfl) (by kernel_rfl) (by kernel_rfl) (by kernel_rfl) (by exact fun _ _ _ h => h) (Or.inl ⟨by rfl, ?_⟩) (by assumption) ?_
  rotate_left
  · (intro w' hSw; (try dsimp only at hSw); go_simp; try with_reducible rfl)
  try simp only [Act.put, List.setIfInBounds_toArray, List.set_cons_zero, List.set_cons_succ]
  refine wpAnyH_take (i := 2) (v := ?_) (by simp only [List.getElem?_toArray, List.getElem?_cons_zero, List.getElem?_cons_succ]; rfl) (by kernel_rfl) (by kernel_rfl) (by kernel_rfl) (by exact fun _ _ _ h => h) (Or.inl ⟨by rfl, ?_⟩) (by assumption) ?_
  rotate_left
  · (intro w' hSw; (try dsimp only at hSw); go_simp; try with_reducible rfl)
  try simp only [Act.put, List.setIfInBounds_toArray, List.set_cons_zero, List.set_cons_succ]
  refine wpAnyH_take (i := 3) (v := ?_) (by simp only [List.getElem?_toArray, List.getElem?_cons_zero, List.getElem?_cons_succ]; rfl) (by kernel_rfl) (by kernel_rfl) (by kernel_rfl) (by exact fun _ _ _ h => h) (Or.inl ⟨by rfl, ?_⟩) (by assumption) ?_
  rotate_left
  · (intro w' hSw; (try dsimp only at hSw); go_simp; try with_reducible rfl)
  try simp only [Act.put, List.setIfInBounds_toArray, List.set_cons_zero, List.set_cons_succ]
  refine wpAnyH_take (i := 4) (v := ?_) (by simp only [List.getElem?_toArray, List.getElem?_cons_zero, List.getElem?_cons_succ]; rfl) (by kernel_rfl) (by kernel_rfl) (by kernel_rfl) (by exact fun _ _ _ h => h) (Or.inl ⟨by rfl, ?_⟩) (by assumption) ?_
  rotate_left
  · (intro w' hSw; (try dsimp only at hSw); go_simp; try with_reducible rfl)
  try simp only [Act.put, List.setIfInBounds_toArray, List.set_cons_zero, List.set_cons_succ]
  refine wpAnyH_take (i := 6) (v := ?_) (by simp only [List.getElem?_toArray, List.getElem?_cons_zero, List.getElem?_cons_succ]; rfl) (by kernel_rfl) (by kernel_rfl) (by kernel_rfl) (by exact fun _ _ _ h => h) (Or.inl ⟨by rfl, ?_⟩) (by assumption) ?_
  rotate_left
  · (intro w' hSw; (try dsimp only at hSw); go_simp; try with_reducible rfl)
  try simp only [Act.put, List.setIfInBounds_toArray, List.set_cons_zero, List.set_cons_succ]
  refine wpAnyH_ready (rs := [5, 7]) (by kernel_rfl) (by simp) ?_
  refine AllReadyH.cons (by simp only [List.getElem?_toArray, List.getElem?_cons_zero, List.getElem?_cons_succ]; rfl) (fun K hK => ?_) (AllReadyH.cons (by simp only [List.getElem?_toArray, List.getElem?_cons_zero, List.getElem?_cons_succ]; rfl) (fun K hK => ?_) (AllReadyH.nil))
  · go_simp
    go_wp2_with fail
    refine hK.out _ _ ⟨keepN _ hHeld.1, keepN _ hHeld.2.1, keepN _ hHeld.2.2.1, keepN _ hHeld.2.2.2⟩ (fun hNext => ?_)
    clear hHeld hK K
    have hHeld := hNext
    clear hNext
    try simp only [Act.put, List.setIfInBounds_toArray, List.set_cons_zero, List.set_cons_succ]
    refine wpAnyH_ready (rs := [7]) (by kernel_rfl) (by simp) ?_
    refine AllReadyH.cons (by simp only [List.getElem?_toArray, List.getElem?_cons_zero, List.getElem?_cons_succ]; rfl) (fun K hK => ?_) (AllReadyH.nil)
    go_simp
    refine (rdivisors_zero _).mono ?_; rintro e w5 ⟨rfl, hb⟩
    go_wp2_with fail
    refine hK.out _ _ ⟨keepC hb hHeld.1, keepC hb hHeld.2.1, keepC hb hHeld.2.2.1, keepC hb hHeld.2.2.2⟩ (fun hNext => ?_)
    clear hHeld hK K
    have hHeld := hNext
    clear hNext
    try simp only [Act.put, List.setIfInBounds_toArray, List.set_cons_zero, List.set_cons_succ]
    have R6 := Lib.hid ((R4.out.alloc _).below hb)
    clear hb
    refine wpAnyH_ready (rs := [8]) (by kernel_rfl) (by simp) ?_
    refine AllReadyH.cons (by simp only [List.getElem?_toArray, List.getElem?_cons_zero, List.getElem?_cons_succ]; rfl) (fun K hK => ?_) (AllReadyH.nil)
    go_simp
    refine (rcorners_nil 4 _ _ _).mono ?_; rintro e w6 ⟨rfl, hb⟩
    go_wp2_with fail
    refine hK.out _ _ ⟨keepC hb hHeld.1, keepC hb hHeld.2.1, keepC hb hHeld.2.2.1, keepC hb hHeld.2.2.2⟩ (fun hNext => ?_)
    clear hHeld hK K
    have hHeld := hNext
    clear hNext
    try simp only [Act.put, List.setIfInBounds_toArray, List.set_cons_zero, List.set_cons_succ]
    have R7 := Lib.hid (R6.out.below hb)
    clear hb
    have g0 := R7.out.vR.c0
    have g1 := R7.out.vR.c1
    have g2 := R7.out.vR.f0
    have g3 := R7.out.vR.f1
    refine wpAnyH_ready (rs := [9]) (by kernel_rfl) (by simp) ?_
    refine AllReadyH.cons (by simp only [List.getElem?_toArray, List.getElem?_cons_zero, List.getElem?_cons_succ]; rfl) (fun K hK => ?_) (AllReadyH.nil)
    go_simp
    go_wp2_with fail
    refine hK.out _ _ ⟨keepS _ _ hHeld.1 (by dsimp only; omega), keepS _ _ hHeld.2.1 (by dsimp only; omega), keepS _ _ hHeld.2.2.1 (by dsimp only; omega), keepS _ _ hHeld.2.2.2 (by dsimp only; omega)⟩ (fun hNext => ?_)
    clear hHeld hK K
    have hHeld := hNext
    clear hNext
    try simp only [Act.put, List.setIfInBounds_toArray, List.set_cons_zero, List.set_cons_succ]
    refine wpAnyH_done (by kernel_rfl) ?_ _
    go_wp2_with fail
    refine bodyPost_ret (v := .agg #[.int .i64 1, .int .i64 0]) (by simp [results, Tryd.results8, go_sem, *]) rfl ⟨rfl, R7.out.done _ _⟩
  · go_simp
    refine (rdivisors_zero _).mono ?_; rintro e w5 ⟨rfl, hb⟩
    go_wp2_with fail
    refine hK.out _ _ ⟨keepC hb hHeld.1, keepC hb hHeld.2.1, keepC hb hHeld.2.2.1, keepC hb hHeld.2.2.2⟩ (fun hNext => ?_)
    clear hHeld hK K
    have hHeld := hNext
    clear hNext
    try simp only [Act.put, List.setIfInBounds_toArray, List.set_cons_zero, List.set_cons_succ]
    have R6 := Lib.hid (R4.out.below hb)
    clear hb
    refine wpAnyH_ready (rs := [5]) (by kernel_rfl) (by simp) ?_
    refine AllReadyH.cons (by simp only [List.getElem?_toArray, List.getElem?_cons_zero, List.getElem?_cons_succ]; rfl) (fun K hK => ?_) (AllReadyH.nil)
    go_simp
    go_wp2_with fail
    refine hK.out _ _ ⟨keepN _ hHeld.1, keepN _ hHeld.2.1, keepN _ hHeld.2.2.1, keepN _ hHeld.2.2.2⟩ (fun hNext => ?_)
    clear hHeld hK K
    have hHeld := hNext
    clear hNext
    try simp only [Act.put, List.setIfInBounds_toArray, List.set_cons_zero, List.set_cons_succ]
    refine wpAnyH_ready (rs := [8]) (by kernel_rfl) (by simp) ?_
    refine AllReadyH.cons (by simp only [List.getElem?_toArray, List.getElem?_cons_zero, List.getElem?_cons_succ]; rfl) (fun K hK => ?_) (AllReadyH.nil)
    go_simp
    refine (rcorners_nil 4 _ _ _).mono ?_; rintro e w6 ⟨rfl, hb⟩
    go_wp2_with fail
    refine hK.out _ _ ⟨keepC hb hHeld.1, keepC hb hHeld.2.1, keepC hb hHeld.2.2.1, keepC hb hHeld.2.2.2⟩ (fun hNext => ?_)
    clear hHeld hK K
    have hHeld := hNext
    clear hNext
    try simp only [Act.put, List.setIfInBounds_toArray, List.set_cons_zero, List.set_cons_succ]
    have R7 := Lib.hid ((R6.out.alloc _).below hb)
    clear hb
    have g0 := R7.out.vR.c0
    have g1 := R7.out.vR.c1
    have g2 := R7.out.vR.f0
    have g3 := R7.out.vR.f1
    refine wpAnyH_ready (rs := [9]) (by kernel_rfl) (by simp) ?_
    refine AllReadyH.cons (by simp only [List.getElem?_toArray, List.getElem?_cons_zero, List.getElem?_cons_succ]; rfl) (fun K hK => ?_) (AllReadyH.nil)
    go_simp
    go_wp2_with fail
    refine hK.out _ _ ⟨keepS _ _ hHeld.1 (by dsimp only; omega), keepS _ _ hHeld.2.1 (by dsimp only; omega), keepS _ _ hHeld.2.2.1 (by dsimp only; omega), keepS _ _ hHeld.2.2.2 (by dsimp only; omega)⟩ (fun hNext => ?_)
    clear hHeld hK K
    have hHeld := hNext
    clear hNext
    try simp only [Act.put, List.setIfInBounds_toArray, List.set_cons_zero, List.set_cons_succ]
    refine wpAnyH_done (by kernel_rfl) ?_ _
    go_wp2_with fail
    refine bodyPost_ret (v := .agg #[.int .i64 1, .int .i64 0]) (by simp [results, Tryd.results8, go_sem, *]) rfl ⟨rfl, R7.out.done _ _⟩

end Go.Proofs.YtdbfaekdkjclcaaDoor
