
/-
  THE REFERENCE's Range, operator by operator.
-/
import Derived.Test.YtdbfaekdkjclcaaDoorNumQr
import Derived.Test.YtdbfaekdkjclcaaDoorNumQa
import Derived.Deep.RegionHeld3
namespace Go.Proofs.YtdbfaekdkjclcaaDoor
open Go Go.RowKit

set_option maxRecDepth 100000 in
set_option maxHeartbeats 8000000 in
theorem rrange_7 (a b c d : Int) (hab : ¬ b < a) (hcd : ¬ d < c) (w : World) : Calls Tryd.prog 8 #[.int .u8 7, .agg #[.int .i64 a, .int .i64 b], .agg #[.int .i64 c, .int .i64 d]] w (Gives w (iv (tv (!canB (contraryV 7) a b c d)) (tv (canB 7 a b c d)))) := by
  have ea : decide (b < a) = false := by simpa using hab
  have eb : decide (d < c) = false := by simpa using hcd
  have eu : unaryB 7 = false := rfl
  clear hab hcd
  generalize hp : canB 7 a b c d = p
  generalize hq : canB (contraryV 7) a b c d = q
  have HP := Lib.hid hp
  have HQ := Lib.hid hq
  clear hp hq
  cases z1 : (c == 0)
  all_goals cases z2 : (d == 0)
  all_goals
   have R0 := Lib.hid (FBox.start w a b c d)
   go_enter Tryd.func8, Tryd.ntmps8
   go_wp2_with fail
   refine (rempty_any _ _ _).mono ?_; rw [ea]; rintro e w1 ⟨rfl, hb⟩
   have R1 := Lib.hid (R0.out.below hb)
   clear hb
   obtain ⟨k0, k1, k2, k3, _, _⟩ := R1.out
   go_wp2_with fail
   refine (runary_any _ _).mono ?_; rw [eu]; rintro e w2 ⟨rfl, hb⟩
   have R2 := Lib.hid (R1.out.below hb)
   clear hb k0 k1 k2 k3
   obtain ⟨k0, k1, k2, k3, _, _⟩ := R2.out
   go_wp2_with fail
   refine (rempty_any _ _ _).mono ?_; rw [eb]; rintro e w3 ⟨rfl, hb⟩
   have R3 := Lib.hid (R2.out.below hb)
   clear hb k0 k1 k2 k3
   obtain ⟨k0, k1, k2, k3, _, _⟩ := R3.out
   clear R0 R1 R2
   go_wp2_with fail
   refine wp_region_held_drew (S := fun w' => w'.cell? ⟨w.heap.size, 0, none⟩ = some (.int .i64 a) ∧ w'.cell? ⟨w.heap.size, 1, none⟩ = some (.int .i64 b) ∧ w'.cell? ⟨w.heap.size + 1, 0, none⟩ = some (.int .i64 c) ∧ w'.cell? ⟨w.heap.size + 1, 1, none⟩ = some (.int .i64 d)) (by kernel_rfl) ⟨k0, k1, k2, k3⟩ (fun hHeld => ?_)
   have R4 := Lib.hid (R3.out.below (Below.drew (Below.refl _ _)))
   clear R3 k0 k1 k2 k3
   refine wpAnyH_take (i := 0) (v := ?_) (by simp only [List.getElem?_toArray, List.getElem?_cons_zero]; rfl) (by kernel_rfl) (by kernel_rfl) (by kernel_rfl) (by exact fun _ _ _ h => h) (Or.inl ⟨by rfl, ?_⟩) (by assumption) ?_
   rotate_left
   · (intro w' hSw; (try dsimp only at hSw); go_simp; try with_reducible rfl)
   try simp only [Act.put, List.setIfInBounds_toArray, List.set_cons_zero, List.set_cons_succ]
   refine wpAnyH_take (i := 2) (v := ?_) (by simp only [List.getElem?_toArray, List.getElem?_cons_zero, List.getElem?_cons_succ]; rfl) (by kernel_rfl) (by kernel_rfl) (by kernel_rfl) (by exact fun _ _ _ h => h) (Or.inl ⟨by rfl, ?_⟩) (by assumption) ?_
   rotate_left
   · (intro w' hSw; (try dsimp only at hSw); go_simp; try with_reducible rfl)
   try simp only [Act.put, List.setIfInBounds_toArray, List.set_cons_zero, List.set_cons_succ]
   refine wpAnyH_take (i := 3) (v := ?_) (by simp only [List.getElem?_toArray, List.getElem?_cons_zero, List.getElem?_cons_succ]; rfl) (by kernel_rfl) (by kernel_rfl) (by kernel_rfl) (by exact fun _ _ _ h => h) (Or.inl ⟨by rfl, ?_⟩) (by assumption) ?_
   rotate_left
   · (intro w' hSw; (try dsimp only at hSw); go_simp; try with_reducible rfl)
   try simp only [Act.put, List.setIfInBounds_toArray, List.set_cons_zero, List.set_cons_succ]
   refine wpAnyH_take (i := 7) (v := ?_) (by simp only [List.getElem?_toArray, List.getElem?_cons_zero, List.getElem?_cons_succ]; rfl) (by kernel_rfl) (by kernel_rfl) (by kernel_rfl) (by exact fun _ _ _ h => h) (Or.inl ⟨by rfl, ?_⟩) (by assumption) ?_
   rotate_left
   · (intro w' hSw; (try dsimp only at hSw); go_simp; try with_reducible rfl)
   try simp only [Act.put, List.setIfInBounds_toArray, List.set_cons_zero, List.set_cons_succ]
   refine wpAnyH_take (i := 8) (v := ?_) (by simp only [List.getElem?_toArray, List.getElem?_cons_zero, List.getElem?_cons_succ]; rfl) (by kernel_rfl) (by kernel_rfl) (by kernel_rfl) (by exact fun _ _ _ h => h) (Or.inl ⟨by rfl, ?_⟩) (by assumption) ?_
   rotate_left
   · (intro w' hSw; (try dsimp only at hSw); go_simp; try with_reducible rfl)
   try simp only [Act.put, List.setIfInBounds_toArray, List.set_cons_zero, List.set_cons_succ]
   refine wpAnyH_take (i := 9) (v := ?_) (by simp only [List.getElem?_toArray, List.getElem?_cons_zero, List.getElem?_cons_succ]; rfl) (by kernel_rfl) (by kernel_rfl) (by kernel_rfl) (by exact fun _ _ _ h => h) (Or.inl ⟨by rfl, ?_⟩) (by assumption) ?_
   rotate_left
   · (intro w' hSw; (try dsimp only at hSw); go_simp; try with_reducible rfl)
   try simp only [Act.put, List.setIfInBounds_toArray, List.set_cons_zero, List.set_cons_succ]
   refine wpAnyH_ready (rs := [1]) (by kernel_rfl) (by simp) ?_
   refine AllReadyH.cons (by simp only [List.getElem?_toArray, List.getElem?_cons_zero, List.getElem?_cons_succ]; rfl) (fun K hK => ?_) (AllReadyH.nil)
   go_simp
   refine (rcontrary_any 7 (by omega) (by omega) _).mono ?_; rintro e w5 ⟨rfl, rfl⟩
   go_wp2_with fail
   refine hK.out _ _ hHeld (fun hNext => ?_)
   clear hHeld hK K
   have hHeld := hNext
   clear hNext
   try simp only [Act.put, List.setIfInBounds_toArray, List.set_cons_zero, List.set_cons_succ]
   refine wpAnyH_ready (rs := [4]) (by kernel_rfl) (by simp) ?_
   refine AllReadyH.cons (by simp only [List.getElem?_toArray, List.getElem?_cons_zero, List.getElem?_cons_succ]; rfl) (fun K hK => ?_) (AllReadyH.nil)
   go_simp
   refine (rcan_any (contraryV 7) _ _ _ _ (by decide) (by decide) _).mono ?_; rw [HQ.out]; rintro e w5 ⟨rfl, hb⟩
   go_wp2_with fail
   refine hK.out _ _ ⟨keepC hb hHeld.1, keepC hb hHeld.2.1, keepC hb hHeld.2.2.1, keepC hb hHeld.2.2.2⟩ (fun hNext => ?_)
   clear hHeld hK K
   have hHeld := hNext
   clear hNext
   try simp only [Act.put, List.setIfInBounds_toArray, List.set_cons_zero, List.set_cons_succ]
   have R5 := Lib.hid (R4.out.below hb)
   clear hb R4
   refine wpAnyH_take (i := 5) (v := ?_) (by simp only [List.getElem?_toArray, List.getElem?_cons_zero, List.getElem?_cons_succ]; rfl) (by kernel_rfl) (by kernel_rfl) (by kernel_rfl) (by exact fun _ _ _ h => h) (Or.inl ⟨by rfl, ?_⟩) (by assumption) ?_
   rotate_left
   · (intro w' hSw; (try dsimp only at hSw); go_simp; try with_reducible rfl)
   try simp only [Act.put, List.setIfInBounds_toArray, List.set_cons_zero, List.set_cons_succ]
   refine wpAnyH_ready (rs := [6]) (by kernel_rfl) (by simp) ?_
   refine AllReadyH.cons (by simp only [List.getElem?_toArray, List.getElem?_cons_zero, List.getElem?_cons_succ]; rfl) (fun K hK => ?_) (AllReadyH.nil)
   go_simp
   refine (rtruth_any _ _).mono ?_; rintro e w5 ⟨rfl, hb⟩
   go_wp2_with fail
   refine hK.out _ _ ⟨keepC hb hHeld.1, keepC hb hHeld.2.1, keepC hb hHeld.2.2.1, keepC hb hHeld.2.2.2⟩ (fun hNext => ?_)
   clear hHeld hK K
   have hHeld := hNext
   clear hNext
   try simp only [Act.put, List.setIfInBounds_toArray, List.set_cons_zero, List.set_cons_succ]
   have R6 := Lib.hid (R5.out.below hb)
   clear hb R5
   refine wpAnyH_ready (rs := [10]) (by kernel_rfl) (by simp) ?_
   refine AllReadyH.cons (by simp only [List.getElem?_toArray, List.getElem?_cons_zero, List.getElem?_cons_succ]; rfl) (fun K hK => ?_) (AllReadyH.nil)
   go_simp
   refine (rcan_any 7 _ _ _ _ (by omega) (by omega) _).mono ?_; rw [HP.out]; rintro e w5 ⟨rfl, hb⟩
   go_wp2_with fail
   refine hK.out _ _ ⟨keepC hb hHeld.1, keepC hb hHeld.2.1, keepC hb hHeld.2.2.1, keepC hb hHeld.2.2.2⟩ (fun hNext => ?_)
   clear hHeld hK K
   have hHeld := hNext
   clear hNext
   try simp only [Act.put, List.setIfInBounds_toArray, List.set_cons_zero, List.set_cons_succ]
   have R7 := Lib.hid (R6.out.below hb)
   clear hb R6
   refine wpAnyH_ready (rs := [11]) (by kernel_rfl) (by simp) ?_
   refine AllReadyH.cons (by simp only [List.getElem?_toArray, List.getElem?_cons_zero, List.getElem?_cons_succ]; rfl) (fun K hK => ?_) (AllReadyH.nil)
   go_simp
   refine (rtruth_any _ _).mono ?_; rintro e w5 ⟨rfl, hb⟩
   go_wp2_with fail
   refine hK.out _ _ ⟨keepC hb hHeld.1, keepC hb hHeld.2.1, keepC hb hHeld.2.2.1, keepC hb hHeld.2.2.2⟩ (fun hNext => ?_)
   clear hHeld hK K
   have hHeld := hNext
   clear hNext
   try simp only [Act.put, List.setIfInBounds_toArray, List.set_cons_zero, List.set_cons_succ]
   have R8 := Lib.hid (R7.out.below hb)
   clear hb R7
   have g0 := R8.out.vR.c0
   have g1 := R8.out.vR.c1
   have g2 := R8.out.vR.f0
   have g3 := R8.out.vR.f1
   refine wpAnyH_take (i := 12) (v := ?_) (by simp only [List.getElem?_toArray, List.getElem?_cons_zero, List.getElem?_cons_succ]; rfl) (by kernel_rfl) (by kernel_rfl) (by kernel_rfl) (by exact fun _ _ _ h => h) (Or.inl ⟨by rfl, ?_⟩) (by assumption) ?_
   rotate_left
   · (intro w' hSw; (try dsimp only at hSw); go_simp; try with_reducible rfl)
   try simp only [Act.put, List.setIfInBounds_toArray, List.set_cons_zero, List.set_cons_succ]
   refine wpAnyH_ready (rs := [13]) (by kernel_rfl) (by simp) ?_
   refine AllReadyH.cons (by simp only [List.getElem?_toArray, List.getElem?_cons_zero, List.getElem?_cons_succ]; rfl) (fun K hK => ?_) (AllReadyH.nil)
   go_simp
   go_wp2_with fail
   refine hK.out _ _ ⟨keepS _ _ hHeld.1 (by dsimp only; omega), keepS _ _ hHeld.2.1 (by dsimp only; omega), keepS _ _ hHeld.2.2.1 (by dsimp only; omega), keepS _ _ hHeld.2.2.2 (by dsimp only; omega)⟩ (fun hNext => ?_)
   clear hHeld hK K
   have hHeld := hNext
   clear hNext
   try simp only [Act.put, List.setIfInBounds_toArray, List.set_cons_zero, List.set_cons_succ]
   refine wpAnyH_done (by kernel_rfl) ?_ _
   go_wp2_with fail
   refine bodyPost_ret (v := .agg #[.int .i64 (tv (!q)), .int .i64 (tv p)]) (by simp [results, Tryd.results8, go_sem, *]) rfl ⟨rfl, R8.out.done _ _⟩

set_option maxRecDepth 100000 in
set_option maxHeartbeats 8000000 in
theorem rrange_8 (a b c d : Int) (hab : ¬ b < a) (hcd : ¬ d < c) (w : World) : Calls Tryd.prog 8 #[.int .u8 8, .agg #[.int .i64 a, .int .i64 b], .agg #[.int .i64 c, .int .i64 d]] w (Gives w (iv (tv (!canB (contraryV 8) a b c d)) (tv (canB 8 a b c d)))) := by
  have ea : decide (b < a) = false := by simpa using hab
  have eb : decide (d < c) = false := by simpa using hcd
  have eu : unaryB 8 = false := rfl
  clear hab hcd
  generalize hp : canB 8 a b c d = p
  generalize hq : canB (contraryV 8) a b c d = q
  have HP := Lib.hid hp
  have HQ := Lib.hid hq
  clear hp hq
  cases z1 : (c == 0)
  all_goals cases z2 : (d == 0)
  all_goals
   have R0 := Lib.hid (FBox.start w a b c d)
   go_enter Tryd.func8, Tryd.ntmps8
   go_wp2_with fail
   refine (rempty_any _ _ _).mono ?_; rw [ea]; rintro e w1 ⟨rfl, hb⟩
   have R1 := Lib.hid (R0.out.below hb)
   clear hb
   obtain ⟨k0, k1, k2, k3, _, _⟩ := R1.out
   go_wp2_with fail
   refine (runary_any _ _).mono ?_; rw [eu]; rintro e w2 ⟨rfl, hb⟩
   have R2 := Lib.hid (R1.out.below hb)
   clear hb k0 k1 k2 k3
   obtain ⟨k0, k1, k2, k3, _, _⟩ := R2.out
   go_wp2_with fail
   refine (rempty_any _ _ _).mono ?_; rw [eb]; rintro e w3 ⟨rfl, hb⟩
   have R3 := Lib.hid (R2.out.below hb)
   clear hb k0 k1 k2 k3
   obtain ⟨k0, k1, k2, k3, _, _⟩ := R3.out
   clear R0 R1 R2
   go_wp2_with fail
   refine wp_region_held_drew (S := fun w' => w'.cell? ⟨w.heap.size, 0, none⟩ = some (.int .i64 a) ∧ w'.cell? ⟨w.heap.size, 1, none⟩ = some (.int .i64 b) ∧ w'.cell? ⟨w.heap.size + 1, 0, none⟩ = some (.int .i64 c) ∧ w'.cell? ⟨w.heap.size + 1, 1, none⟩ = some (.int .i64 d)) (by kernel_rfl) ⟨k0, k1, k2, k3⟩ (fun hHeld => ?_)
   have R4 := Lib.hid (R3.out.below (Below.drew (Below.refl _ _)))
   clear R3 k0 k1 k2 k3
   refine wpAnyH_take (i := 0) (v := ?_) (by simp only [List.getElem?_toArray, List.getElem?_cons_zero]; rfl) (by kernel_rfl) (by kernel_rfl) (by kernel_rfl) (by exact fun _ _ _ h => h) (Or.inl ⟨by rfl, ?_⟩) (by assumption) ?_
   rotate_left
   · (intro w' hSw; (try dsimp only at hSw); go_simp; try with_reducible rfl)
   try simp only [Act.put, List.setIfInBounds_toArray, List.set_cons_zero, List.set_cons_succ]
   refine wpAnyH_take (i := 2) (v := ?_) (by simp only [List.getElem?_toArray, List.getElem?_cons_zero, List.getElem?_cons_succ]; rfl) (by kernel_rfl) (by kernel_rfl) (by kernel_rfl) (by exact fun _ _ _ h => h) (Or.inl ⟨by rfl, ?_⟩) (by assumption) ?_
   rotate_left
   · (intro w' hSw; (try dsimp only at hSw); go_simp; try with_reducible rfl)
   try simp only [Act.put, List.setIfInBounds_toArray, List.set_cons_zero, List.set_cons_succ]
   refine wpAnyH_take (i := 3) (v := ?_) (by simp only [List.getElem?_toArray, List.getElem?_cons_zero, List.getElem?_cons_succ]; rfl) (by kernel_rfl) (by kernel_rfl) (by kernel_rfl) (by exact fun _ _ _ h => h) (Or.inl ⟨by rfl, ?_⟩) (by assumption) ?_
   rotate_left
   · (intro w' hSw; (try dsimp only at hSw); go_simp; try with_reducible rfl)
   try simp only [Act.put, List.setIfInBounds_toArray, List.set_cons_zero, List.set_cons_succ]
   refine wpAnyH_take (i := 7) (v := ?_) (by simp only [List.getElem?_toArray, List.getElem?_cons_zero, List.getElem?_cons_succ]; rfl) (by kernel_rfl) (by kernel_rfl) (by kernel_rfl) (by exact fun _ _ _ h => h) (Or.inl ⟨by rfl, ?_⟩) (by assumption) ?_
   rotate_left
   · (intro w' hSw; (try dsimp only at hSw); go_simp; try with_reducible rfl)
   try simp only [Act.put, List.setIfInBounds_toArray, List.set_cons_zero, List.set_cons_succ]
   refine wpAnyH_take (i := 8) (v := ?_) (by simp only [List.getElem?_toArray, List.getElem?_cons_zero, List.getElem?_cons_succ]; rfl) (by kernel_rfl) (by kernel_rfl) (by kernel_rfl) (by exact fun _ _ _ h => h) (Or.inl ⟨by rfl, ?_⟩) (by assumption) ?_
   rotate_left
   · (intro w' hSw; (try dsimp only at hSw); go_simp; try with_reducible rfl)
   try simp only [Act.put, List.setIfInBounds_toArray, List.set_cons_zero, List.set_cons_succ]
   refine wpAnyH_take (i := 9) (v := ?_) (by simp only [List.getElem?_toArray, List.getElem?_cons_zero, List.getElem?_cons_succ]; rfl) (by kernel_rfl) (by kernel_rfl) (by kernel_rfl) (by exact fun _ _ _ h => h) (Or.inl ⟨by rfl, ?_⟩) (by assumption) ?_
   rotate_left
   · (intro w' hSw; (try dsimp only at hSw); go_simp; try with_reducible rfl)
   try simp only [Act.put, List.setIfInBounds_toArray, List.set_cons_zero, List.set_cons_succ]
   refine wpAnyH_ready (rs := [1]) (by kernel_rfl) (by simp) ?_
   refine AllReadyH.cons (by simp only [List.getElem?_toArray, List.getElem?_cons_zero, List.getElem?_cons_succ]; rfl) (fun K hK => ?_) (AllReadyH.nil)
   go_simp
   refine (rcontrary_any 8 (by omega) (by omega) _).mono ?_; rintro e w5 ⟨rfl, rfl⟩
   go_wp2_with fail
   refine hK.out _ _ hHeld (fun hNext => ?_)
   clear hHeld hK K
   have hHeld := hNext
   clear hNext
   try simp only [Act.put, List.setIfInBounds_toArray, List.set_cons_zero, List.set_cons_succ]
   refine wpAnyH_ready (rs := [4]) (by kernel_rfl) (by simp) ?_
   refine AllReadyH.cons (by simp only [List.getElem?_toArray, List.getElem?_cons_zero, List.getElem?_cons_succ]; rfl) (fun K hK => ?_) (AllReadyH.nil)
   go_simp
   refine (rcan_any (contraryV 8) _ _ _ _ (by decide) (by decide) _).mono ?_; rw [HQ.out]; rintro e w5 ⟨rfl, hb⟩
   go_wp2_with fail
   refine hK.out _ _ ⟨keepC hb hHeld.1, keepC hb hHeld.2.1, keepC hb hHeld.2.2.1, keepC hb hHeld.2.2.2⟩ (fun hNext => ?_)
   clear hHeld hK K
   have hHeld := hNext
   clear hNext
   try simp only [Act.put, List.setIfInBounds_toArray, List.set_cons_zero, List.set_cons_succ]
   have R5 := Lib.hid (R4.out.below hb)
   clear hb R4
   refine wpAnyH_take (i := 5) (v := ?_) (by simp only [List.getElem?_toArray, List.getElem?_cons_zero, List.getElem?_cons_succ]; rfl) (by kernel_rfl) (by kernel_rfl) (by kernel_rfl) (by exact fun _ _ _ h => h) (Or.inl ⟨by rfl, ?_⟩) (by assumption) ?_
   rotate_left
   · (intro w' hSw; (try dsimp only at hSw); go_simp; try with_reducible rfl)
   try simp only [Act.put, List.setIfInBounds_toArray, List.set_cons_zero, List.set_cons_succ]
   refine wpAnyH_ready (rs := [6]) (by kernel_rfl) (by simp) ?_
   refine AllReadyH.cons (by simp only [List.getElem?_toArray, List.getElem?_cons_zero, List.getElem?_cons_succ]; rfl) (fun K hK => ?_) (AllReadyH.nil)
   go_simp
   refine (rtruth_any _ _).mono ?_; rintro e w5 ⟨rfl, hb⟩
   go_wp2_with fail
   refine hK.out _ _ ⟨keepC hb hHeld.1, keepC hb hHeld.2.1, keepC hb hHeld.2.2.1, keepC hb hHeld.2.2.2⟩ (fun hNext => ?_)
   clear hHeld hK K
   have hHeld := hNext
   clear hNext
   try simp only [Act.put, List.setIfInBounds_toArray, List.set_cons_zero, List.set_cons_succ]
   have R6 := Lib.hid (R5.out.below hb)
   clear hb R5
   refine wpAnyH_ready (rs := [10]) (by kernel_rfl) (by simp) ?_
   refine AllReadyH.cons (by simp only [List.getElem?_toArray, List.getElem?_cons_zero, List.getElem?_cons_succ]; rfl) (fun K hK => ?_) (AllReadyH.nil)
   go_simp
   refine (rcan_any 8 _ _ _ _ (by omega) (by omega) _).mono ?_; rw [HP.out]; rintro e w5 ⟨rfl, hb⟩
   go_wp2_with fail
   refine hK.out _ _ ⟨keepC hb hHeld.1, keepC hb hHeld.2.1, keepC hb hHeld.2.2.1, keepC hb hHeld.2.2.2⟩ (fun hNext => ?_)
   clear hHeld hK K
   have hHeld := hNext
   clear hNext
   try simp only [Act.put, List.setIfInBounds_toArray, List.set_cons_zero, List.set_cons_succ]
   have R7 := Lib.hid (R6.out.below hb)
   clear hb R6
   refine wpAnyH_ready (rs := [11]) (by kernel_rfl) (by simp) ?_
   refine AllReadyH.cons (by simp only [List.getElem?_toArray, List.getElem?_cons_zero, List.getElem?_cons_succ]; rfl) (fun K hK => ?_) (AllReadyH.nil)
   go_simp
   refine (rtruth_any _ _).mono ?_; rintro e w5 ⟨rfl, hb⟩
   go_wp2_with fail
   refine hK.out _ _ ⟨keepC hb hHeld.1, keepC hb hHeld.2.1, keepC hb hHeld.2.2.1, keepC hb hHeld.2.2.2⟩ (fun hNext => ?_)
   clear hHeld hK K
   have hHeld := hNext
   clear hNext
   try simp only [Act.put, List.setIfInBounds_toArray, List.set_cons_zero, List.set_cons_succ]
   have R8 := Lib.hid (R7.out.below hb)
   clear hb R7
   have g0 := R8.out.vR.c0
   have g1 := R8.out.vR.c1
   have g2 := R8.out.vR.f0
   have g3 := R8.out.vR.f1
   refine wpAnyH_take (i := 12) (v := ?_) (by simp only [List.getElem?_toArray, List.getElem?_cons_zero, List.getElem?_cons_succ]; rfl) (by kernel_rfl) (by kernel_rfl) (by kernel_rfl) (by exact fun _ _ _ h => h) (Or.inl ⟨by rfl, ?_⟩) (by assumption) ?_
   rotate_left
   · (intro w' hSw; (try dsimp only at hSw); go_simp; try with_reducible rfl)
   try simp only [Act.put, List.setIfInBounds_toArray, List.set_cons_zero, List.set_cons_succ]
   refine wpAnyH_ready (rs := [13]) (by kernel_rfl) (by simp) ?_
   refine AllReadyH.cons (by simp only [List.getElem?_toArray, List.getElem?_cons_zero, List.getElem?_cons_succ]; rfl) (fun K hK => ?_) (AllReadyH.nil)
   go_simp
   go_wp2_with fail
   refine hK.out _ _ ⟨keepS _ _ hHeld.1 (by dsimp only; omega), keepS _ _ hHeld.2.1 (by dsimp only; omega), keepS _ _ hHeld.2.2.1 (by dsimp only; omega), keepS _ _ hHeld.2.2.2 (by dsimp only; omega)⟩ (fun hNext => ?_)
   clear hHeld hK K
   have hHeld := hNext
   clear hNext
   try simp only [Act.put, List.setIfInBounds_toArray, List.set_cons_zero, List.set_cons_succ]
   refine wpAnyH_done (by kernel_rfl) ?_ _
   go_wp2_with fail
   refine bodyPost_ret (v := .agg #[.int .i64 (tv (!q)), .int .i64 (tv p)]) (by simp [results, Tryd.results8, go_sem, *]) rfl ⟨rfl, R8.out.done _ _⟩

set_option maxRecDepth 100000 in
set_option maxHeartbeats 8000000 in
theorem rrange_9 (a b c d : Int) (hab : ¬ b < a) (hcd : ¬ d < c) (w : World) : Calls Tryd.prog 8 #[.int .u8 9, .agg #[.int .i64 a, .int .i64 b], .agg #[.int .i64 c, .int .i64 d]] w (Gives w (iv (tv (!canB (contraryV 9) a b c d)) (tv (canB 9 a b c d)))) := by
  have ea : decide (b < a) = false := by simpa using hab
  have eb : decide (d < c) = false := by simpa using hcd
  have eu : unaryB 9 = false := rfl
  clear hab hcd
  generalize hp : canB 9 a b c d = p
  generalize hq : canB (contraryV 9) a b c d = q
  have HP := Lib.hid hp
  have HQ := Lib.hid hq
  clear hp hq
  cases z1 : (c == 0)
  all_goals cases z2 : (d == 0)
  all_goals
   have R0 := Lib.hid (FBox.start w a b c d)
   go_enter Tryd.func8, Tryd.ntmps8
   go_wp2_with fail
   refine (rempty_any _ _ _).mono ?_; rw [ea]; rintro e w1 ⟨rfl, hb⟩
   have R1 := Lib.hid (R0.out.below hb)
   clear hb
   obtain ⟨k0, k1, k2, k3, _, _⟩ := R1.out
   go_wp2_with fail
   refine (runary_any _ _).mono ?_; rw [eu]; rintro e w2 ⟨rfl, hb⟩
   have R2 := Lib.hid (R1.out.below hb)
   clear hb k0 k1 k2 k3
   obtain ⟨k0, k1, k2, k3, _, _⟩ := R2.out
   go_wp2_with fail
   refine (rempty_any _ _ _).mono ?_; rw [eb]; rintro e w3 ⟨rfl, hb⟩
   have R3 := Lib.hid (R2.out.below hb)
   clear hb k0 k1 k2 k3
   obtain ⟨k0, k1, k2, k3, _, _⟩ := R3.out
   clear R0 R1 R2
   go_wp2_with fail
   refine wp_region_held_drew (S := fun w' => w'.cell? ⟨w.heap.size, 0, none⟩ = some (.int .i64 a) ∧ w'.cell? ⟨w.heap.size, 1, none⟩ = some (.int .i64 b) ∧ w'.cell? ⟨w.heap.size + 1, 0, none⟩ = some (.int .i64 c) ∧ w'.cell? ⟨w.heap.size + 1, 1, none⟩ = some (.int .i64 d)) (by kernel_rfl) ⟨k0, k1, k2, k3⟩ (fun hHeld => ?_)
   have R4 := Lib.hid (R3.out.below (Below.drew (Below.refl _ _)))
   clear R3 k0 k1 k2 k3
   refine wpAnyH_take (i := 0) (v := ?_) (by simp only [List.getElem?_toArray, List.getElem?_cons_zero]; rfl) (by kernel_rfl) (by kernel_rfl) (by kernel_rfl) (by exact fun _ _ _ h => h) (Or.inl ⟨by rfl, ?_⟩) (by assumption) ?_
   rotate_left
   · (intro w' hSw; (try dsimp only at hSw); go_simp; try with_reducible rfl)
   try simp only [Act.put, List.setIfInBounds_toArray, List.set_cons_zero, List.set_cons_succ]
   refine wpAnyH_take (i := 2) (v := ?_) (by simp only [List.getElem?_toArray, List.getElem?_cons_zero, List.getElem?_cons_succ]; rfl) (by kernel_rfl) (by kernel_rfl) (by kernel_rfl) (by exact fun _ _ _ h => h) (Or.inl ⟨by rfl, ?_⟩) (by assumption) ?_
   rotate_left
   · (intro w' hSw; (try dsimp only at hSw); go_simp; try with_reducible rfl)
   try simp only [Act.put, List.setIfInBounds_toArray, List.set_cons_zero, List.set_cons_succ]
   refine wpAnyH_take (i := 3) (v := ?_) (by simp only [List.getElem?_toArray, List.getElem?_cons_zero, List.getElem?_cons_succ]; rfl) (by kernel_rfl) (by kernel_rfl) (by kernel_rfl) (by exact fun _ _ _ h => h) (Or.inl ⟨by rfl, ?_⟩) (by assumption) ?_
   rotate_left
   · (intro w' hSw; (try dsimp only at hSw); go_simp; try with_reducible rfl)
   try simp only [Act.put, List.setIfInBounds_toArray, List.set_cons_zero, List.set_cons_succ]
   refine wpAnyH_take (i := 7) (v := ?_) (by simp only [List.getElem?_toArray, List.getElem?_cons_zero, List.getElem?_cons_succ]; rfl) (by kernel_rfl) (by kernel_rfl) (by kernel_rfl) (by exact fun _ _ _ h => h) (Or.inl ⟨by rfl, ?_⟩) (by assumption) ?_
   rotate_left
   · (intro w' hSw; (try dsimp only at hSw); go_simp; try with_reducible rfl)
   try simp only [Act.put, List.setIfInBounds_toArray, List.set_cons_zero, List.set_cons_succ]
   refine wpAnyH_take (i := 8) (v := ?_) (by simp only [List.getElem?_toArray, List.getElem?_cons_zero, List.getElem?_cons_succ]; rfl) (by kernel_rfl) (by kernel_rfl) (by kernel_rfl) (by exact fun _ _ _ h => h) (Or.inl ⟨by rfl, ?_⟩) (by assumption) ?_
   rotate_left
   · (intro w' hSw; (try dsimp only at hSw); go_simp; try with_reducible rfl)
   try simp only [Act.put, List.setIfInBounds_toArray, List.set_cons_zero, List.set_cons_succ]
   refine wpAnyH_take (i := 9) (v := ?_) (by simp only [List.getElem?_toArray, List.getElem?_cons_zero, List.getElem?_cons_succ]; rfl) (by kernel_rfl) (by kernel_rfl) (by kernel_rfl) (by exact fun _ _ _ h => h) (Or.inl ⟨by rfl, ?_⟩) (by assumption) ?_
   rotate_left
   · (intro w' hSw; (try dsimp only at hSw); go_simp; try with_reducible rfl)
   try simp only [Act.put, List.setIfInBounds_toArray, List.set_cons_zero, List.set_cons_succ]
   refine wpAnyH_ready (rs := [1]) (by kernel_rfl) (by simp) ?_
   refine AllReadyH.cons (by simp only [List.getElem?_toArray, List.getElem?_cons_zero, List.getElem?_cons_succ]; rfl) (fun K hK => ?_) (AllReadyH.nil)
   go_simp
   refine (rcontrary_any 9 (by omega) (by omega) _).mono ?_; rintro e w5 ⟨rfl, rfl⟩
   go_wp2_with fail
   refine hK.out _ _ hHeld (fun hNext => ?_)
   clear hHeld hK K
   have hHeld := hNext
   clear hNext
   try simp only [Act.put, List.setIfInBounds_toArray, List.set_cons_zero, List.set_cons_succ]
   refine wpAnyH_ready (rs := [4]) (by kernel_rfl) (by simp) ?_
   refine AllReadyH.cons (by simp only [List.getElem?_toArray, List.getElem?_cons_zero, List.getElem?_cons_succ]; rfl) (fun K hK => ?_) (AllReadyH.nil)
   go_simp
   refine (rcan_any (contraryV 9) _ _ _ _ (by decide) (by decide) _).mono ?_; rw [HQ.out]; rintro e w5 ⟨rfl, hb⟩
   go_wp2_with fail
   refine hK.out _ _ ⟨keepC hb hHeld.1, keepC hb hHeld.2.1, keepC hb hHeld.2.2.1, keepC hb hHeld.2.2.2⟩ (fun hNext => ?_)
   clear hHeld hK K
   have hHeld := hNext
   clear hNext
   try simp only [Act.put, List.setIfInBounds_toArray, List.set_cons_zero, List.set_cons_succ]
   have R5 := Lib.hid (R4.out.below hb)
   clear hb R4
   refine wpAnyH_take (i := 5) (v := ?_) (by simp only [List.getElem?_toArray, List.getElem?_cons_zero, List.getElem?_cons_succ]; rfl) (by kernel_rfl) (by kernel_rfl) (by kernel_rfl) (by exact fun _ _ _ h => h) (Or.inl ⟨by rfl, ?_⟩) (by assumption) ?_
   rotate_left
   · (intro w' hSw; (try dsimp only at hSw); go_simp; try with_reducible rfl)
   try simp only [Act.put, List.setIfInBounds_toArray, List.set_cons_zero, List.set_cons_succ]
   refine wpAnyH_ready (rs := [6]) (by kernel_rfl) (by simp) ?_
   refine AllReadyH.cons (by simp only [List.getElem?_toArray, List.getElem?_cons_zero, List.getElem?_cons_succ]; rfl) (fun K hK => ?_) (AllReadyH.nil)
   go_simp
   refine (rtruth_any _ _).mono ?_; rintro e w5 ⟨rfl, hb⟩
   go_wp2_with fail
   refine hK.out _ _ ⟨keepC hb hHeld.1, keepC hb hHeld.2.1, keepC hb hHeld.2.2.1, keepC hb hHeld.2.2.2⟩ (fun hNext => ?_)
   clear hHeld hK K
   have hHeld := hNext
   clear hNext
   try simp only [Act.put, List.setIfInBounds_toArray, List.set_cons_zero, List.set_cons_succ]
   have R6 := Lib.hid (R5.out.below hb)
   clear hb R5
   refine wpAnyH_ready (rs := [10]) (by kernel_rfl) (by simp) ?_
   refine AllReadyH.cons (by simp only [List.getElem?_toArray, List.getElem?_cons_zero, List.getElem?_cons_succ]; rfl) (fun K hK => ?_) (AllReadyH.nil)
   go_simp
   refine (rcan_any 9 _ _ _ _ (by omega) (by omega) _).mono ?_; rw [HP.out]; rintro e w5 ⟨rfl, hb⟩
   go_wp2_with fail
   refine hK.out _ _ ⟨keepC hb hHeld.1, keepC hb hHeld.2.1, keepC hb hHeld.2.2.1, keepC hb hHeld.2.2.2⟩ (fun hNext => ?_)
   clear hHeld hK K
   have hHeld := hNext
   clear hNext
   try simp only [Act.put, List.setIfInBounds_toArray, List.set_cons_zero, List.set_cons_succ]
   have R7 := Lib.hid (R6.out.below hb)
   clear hb R6
   refine wpAnyH_ready (rs := [11]) (by kernel_rfl) (by simp) ?_
   refine AllReadyH.cons (by simp only [List.getElem?_toArray, List.getElem?_cons_zero, List.getElem?_cons_succ]; rfl) (fun K hK => ?_) (AllReadyH.nil)
   go_simp
   refine (rtruth_any _ _).mono ?_; rintro e w5 ⟨rfl, hb⟩
   go_wp2_with fail
   refine hK.out _ _ ⟨keepC hb hHeld.1, keepC hb hHeld.2.1, keepC hb hHeld.2.2.1, keepC hb hHeld.2.2.2⟩ (fun hNext => ?_)
   clear hHeld hK K
   have hHeld := hNext
   clear hNext
   try simp only [Act.put, List.setIfInBounds_toArray, List.set_cons_zero, List.set_cons_succ]
   have R8 := Lib.hid (R7.out.below hb)
   clear hb R7
   have g0 := R8.out.vR.c0
   have g1 := R8.out.vR.c1
   have g2 := R8.out.vR.f0
   have g3 := R8.out.vR.f1
   refine wpAnyH_take (i := 12) (v := ?_) (by simp only [List.getElem?_toArray, List.getElem?_cons_zero, List.getElem?_cons_succ]; rfl) (by kernel_rfl) (by kernel_rfl) (by kernel_rfl) (by exact fun _ _ _ h => h) (Or.inl ⟨by rfl, ?_⟩) (by assumption) ?_
   rotate_left
   · (intro w' hSw; (try dsimp only at hSw); go_simp; try with_reducible rfl)
   try simp only [Act.put, List.setIfInBounds_toArray, List.set_cons_zero, List.set_cons_succ]
   refine wpAnyH_ready (rs := [13]) (by kernel_rfl) (by simp) ?_
   refine AllReadyH.cons (by simp only [List.getElem?_toArray, List.getElem?_cons_zero, List.getElem?_cons_succ]; rfl) (fun K hK => ?_) (AllReadyH.nil)
   go_simp
   go_wp2_with fail
   refine hK.out _ _ ⟨keepS _ _ hHeld.1 (by dsimp only; omega), keepS _ _ hHeld.2.1 (by dsimp only; omega), keepS _ _ hHeld.2.2.1 (by dsimp only; omega), keepS _ _ hHeld.2.2.2 (by dsimp only; omega)⟩ (fun hNext => ?_)
   clear hHeld hK K
   have hHeld := hNext
   clear hNext
   try simp only [Act.put, List.setIfInBounds_toArray, List.set_cons_zero, List.set_cons_succ]
   refine wpAnyH_done (by kernel_rfl) ?_ _
   go_wp2_with fail
   refine bodyPost_ret (v := .agg #[.int .i64 (tv (!q)), .int .i64 (tv p)]) (by simp [results, Tryd.results8, go_sem, *]) rfl ⟨rfl, R8.out.done _ _⟩

set_option maxRecDepth 100000 in
set_option maxHeartbeats 8000000 in
theorem rrange_10 (a b c d : Int) (hab : ¬ b < a) (hcd : ¬ d < c) (w : World) : Calls Tryd.prog 8 #[.int .u8 10, .agg #[.int .i64 a, .int .i64 b], .agg #[.int .i64 c, .int .i64 d]] w (Gives w (iv (tv (!canB (contraryV 10) a b c d)) (tv (canB 10 a b c d)))) := by
  have ea : decide (b < a) = false := by simpa using hab
  have eb : decide (d < c) = false := by simpa using hcd
  have eu : unaryB 10 = false := rfl
  clear hab hcd
  generalize hp : canB 10 a b c d = p
  generalize hq : canB (contraryV 10) a b c d = q
  have HP := Lib.hid hp
  have HQ := Lib.hid hq
  clear hp hq
  cases z1 : (c == 0)
  all_goals cases z2 : (d == 0)
  all_goals
   have R0 := Lib.hid (FBox.start w a b c d)
   go_enter Tryd.func8, Tryd.ntmps8
   go_wp2_with fail
   refine (rempty_any _ _ _).mono ?_; rw [ea]; rintro e w1 ⟨rfl, hb⟩
   have R1 := Lib.hid (R0.out.below hb)
   clear hb
   obtain ⟨k0, k1, k2, k3, _, _⟩ := R1.out
   go_wp2_with fail
   refine (runary_any _ _).mono ?_; rw [eu]; rintro e w2 ⟨rfl, hb⟩
   have R2 := Lib.hid (R1.out.below hb)
   clear hb k0 k1 k2 k3
   obtain ⟨k0, k1, k2, k3, _, _⟩ := R2.out
   go_wp2_with fail
   refine (rempty_any _ _ _).mono ?_; rw [eb]; rintro e w3 ⟨rfl, hb⟩
   have R3 := Lib.hid (R2.out.below hb)
   clear hb k0 k1 k2 k3
   obtain ⟨k0, k1, k2, k3, _, _⟩ := R3.out
   clear R0 R1 R2
   go_wp2_with fail
   refine wp_region_held_drew (S := fun w' => w'.cell? ⟨w.heap.size, 0, none⟩ = some (.int .i64 a) ∧ w'.cell? ⟨w.heap.size, 1, none⟩ = some (.int .i64 b) ∧ w'.cell? ⟨w.heap.size + 1, 0, none⟩ = some (.int .i64 c) ∧ w'.cell? ⟨w.heap.size + 1, 1, none⟩ = some (.int .i64 d)) (by kernel_rfl) ⟨k0, k1, k2, k3⟩ (fun hHeld => ?_)
   have R4 := Lib.hid (R3.out.below (Below.drew (Below.refl _ _)))
   clear R3 k0 k1 k2 k3
   refine wpAnyH_take (i := 0) (v := ?_) (by simp only [List.getElem?_toArray, List.getElem?_cons_zero]; rfl) (by kernel_rfl) (by kernel_rfl) (by kernel_rfl) (by exact fun _ _ _ h => h) (Or.inl ⟨by rfl, ?_⟩) (by assumption) ?_
   rotate_left
   · (intro w' hSw; (try dsimp only at hSw); go_simp; try with_reducible rfl)
   try simp only [Act.put, List.setIfInBounds_toArray, List.set_cons_zero, List.set_cons_succ]
   refine wpAnyH_take (i := 2) (v := ?_) (by simp only [List.getElem?_toArray, List.getElem?_cons_zero, List.getElem?_cons_succ]; rfl) (by kernel_rfl) (by kernel_rfl) (by kernel_rfl) (by exact fun _ _ _ h => h) (Or.inl ⟨by rfl, ?_⟩) (by assumption) ?_
   rotate_left
   · (intro w' hSw; (try dsimp only at hSw); go_simp; try with_reducible rfl)
   try simp only [Act.put, List.setIfInBounds_toArray, List.set_cons_zero, List.set_cons_succ]
   refine wpAnyH_take (i := 3) (v := ?_) (by simp only [List.getElem?_toArray, List.getElem?_cons_zero, List.getElem?_cons_succ]; rfl) (by kernel_rfl) (by kernel_rfl) (by kernel_rfl) (by exact fun _ _ _ h => h) (Or.inl ⟨by rfl, ?_⟩) (by assumption) ?_
   rotate_left
   · (intro w' hSw; (try dsimp only at hSw); go_simp; try with_reducible rfl)
   try simp only [Act.put, List.setIfInBounds_toArray, List.set_cons_zero, List.set_cons_succ]
   refine wpAnyH_take (i := 7) (v := ?_) (by simp only [List.getElem?_toArray, List.getElem?_cons_zero, List.getElem?_cons_succ]; rfl) (by kernel_rfl) (by kernel_rfl) (by kernel_rfl) (by exact fun _ _ _ h => h) (Or.inl ⟨by rfl, ?_⟩) (by assumption) ?_
   rotate_left
   · (intro w' hSw; (try dsimp only at hSw); go_simp; try with_reducible rfl)
   try simp only [Act.put, List.setIfInBounds_toArray, List.set_cons_zero, List.set_cons_succ]
   refine wpAnyH_take (i := 8) (v := ?_) (by simp only [List.getElem?_toArray, List.getElem?_cons_zero, List.getElem?_cons_succ]; rfl) (by kernel_rfl) (by kernel_rfl) (by kernel_rfl) (by exact fun _ _ _ h => h) (Or.inl ⟨by rfl, ?_⟩) (by assumption) ?_
   rotate_left
   · (intro w' hSw; (try dsimp only at hSw); go_simp; try with_reducible rfl)
   try simp only [Act.put, List.setIfInBounds_toArray, List.set_cons_zero, List.set_cons_succ]
   refine wpAnyH_take (i := 9) (v := ?_) (by simp only [List.getElem?_toArray, List.getElem?_cons_zero, List.getElem?_cons_succ]; rfl) (by kernel_rfl) (by kernel_rfl) (by kernel_rfl) (by exact fun _ _ _ h => h) (Or.inl ⟨by rfl, ?_⟩) (by assumption) ?_
   rotate_left
   · (intro w' hSw; (try dsimp only at hSw); go_simp; try with_reducible rfl)
   try simp only [Act.put, List.setIfInBounds_toArray, List.set_cons_zero, List.set_cons_succ]
   refine wpAnyH_ready (rs := [1]) (by kernel_rfl) (by simp) ?_
   refine AllReadyH.cons (by simp only [List.getElem?_toArray, List.getElem?_cons_zero, List.getElem?_cons_succ]; rfl) (fun K hK => ?_) (AllReadyH.nil)
   go_simp
   refine (rcontrary_any 10 (by omega) (by omega) _).mono ?_; rintro e w5 ⟨rfl, rfl⟩
   go_wp2_with fail
   refine hK.out _ _ hHeld (fun hNext => ?_)
   clear hHeld hK K
   have hHeld := hNext
   clear hNext
   try simp only [Act.put, List.setIfInBounds_toArray, List.set_cons_zero, List.set_cons_succ]
   refine wpAnyH_ready (rs := [4]) (by kernel_rfl) (by simp) ?_
   refine AllReadyH.cons (by simp only [List.getElem?_toArray, List.getElem?_cons_zero, List.getElem?_cons_succ]; rfl) (fun K hK => ?_) (AllReadyH.nil)
   go_simp
   refine (rcan_any (contraryV 10) _ _ _ _ (by decide) (by decide) _).mono ?_; rw [HQ.out]; rintro e w5 ⟨rfl, hb⟩
   go_wp2_with fail
   refine hK.out _ _ ⟨keepC hb hHeld.1, keepC hb hHeld.2.1, keepC hb hHeld.2.2.1, keepC hb hHeld.2.2.2⟩ (fun hNext => ?_)
   clear hHeld hK K
   have hHeld := hNext
   clear hNext
   try simp only [Act.put, List.setIfInBounds_toArray, List.set_cons_zero, List.set_cons_succ]
   have R5 := Lib.hid (R4.out.below hb)
   clear hb R4
   refine wpAnyH_take (i := 5) (v := ?_) (by simp only [List.getElem?_toArray, List.getElem?_cons_zero, List.getElem?_cons_succ]; rfl) (by kernel_rfl) (by kernel_rfl) (by kernel_rfl) (by exact fun _ _ _ h => h) (Or.inl ⟨by rfl, ?_⟩) (by assumption) ?_
   rotate_left
   · (intro w' hSw; (try dsimp only at hSw); go_simp; try with_reducible rfl)
   try simp only [Act.put, List.setIfInBounds_toArray, List.set_cons_zero, List.set_cons_succ]
   refine wpAnyH_ready (rs := [6]) (by kernel_rfl) (by simp) ?_
   refine AllReadyH.cons (by simp only [List.getElem?_toArray, List.getElem?_cons_zero, List.getElem?_cons_succ]; rfl) (fun K hK => ?_) (AllReadyH.nil)
   go_simp
   refine (rtruth_any _ _).mono ?_; rintro e w5 ⟨rfl, hb⟩
   go_wp2_with fail
   refine hK.out _ _ ⟨keepC hb hHeld.1, keepC hb hHeld.2.1, keepC hb hHeld.2.2.1, keepC hb hHeld.2.2.2⟩ (fun hNext => ?_)
   clear hHeld hK K
   have hHeld := hNext
   clear hNext
   try simp only [Act.put, List.setIfInBounds_toArray, List.set_cons_zero, List.set_cons_succ]
   have R6 := Lib.hid (R5.out.below hb)
   clear hb R5
   refine wpAnyH_ready (rs := [10]) (by kernel_rfl) (by simp) ?_
   refine AllReadyH.cons (by simp only [List.getElem?_toArray, List.getElem?_cons_zero, List.getElem?_cons_succ]; rfl) (fun K hK => ?_) (AllReadyH.nil)
   go_simp
   refine (rcan_any 10 _ _ _ _ (by omega) (by omega) _).mono ?_; rw [HP.out]; rintro e w5 ⟨rfl, hb⟩
   go_wp2_with fail
   refine hK.out _ _ ⟨keepC hb hHeld.1, keepC hb hHeld.2.1, keepC hb hHeld.2.2.1, keepC hb hHeld.2.2.2⟩ (fun hNext => ?_)
   clear hHeld hK K
   have hHeld := hNext
   clear hNext
   try simp only [Act.put, List.setIfInBounds_toArray, List.set_cons_zero, List.set_cons_succ]
   have R7 := Lib.hid (R6.out.below hb)
   clear hb R6
   refine wpAnyH_ready (rs := [11]) (by kernel_rfl) (by simp) ?_
   refine AllReadyH.cons (by simp only [List.getElem?_toArray, List.getElem?_cons_zero, List.getElem?_cons_succ]; rfl) (fun K hK => ?_) (AllReadyH.nil)
   go_simp
   refine (rtruth_any _ _).mono ?_; rintro e w5 ⟨rfl, hb⟩
   go_wp2_with fail
   refine hK.out _ _ ⟨keepC hb hHeld.1, keepC hb hHeld.2.1, keepC hb hHeld.2.2.1, keepC hb hHeld.2.2.2⟩ (fun hNext => ?_)
   clear hHeld hK K
   have hHeld := hNext
   clear hNext
   try simp only [Act.put, List.setIfInBounds_toArray, List.set_cons_zero, List.set_cons_succ]
   have R8 := Lib.hid (R7.out.below hb)
   clear hb R7
   have g0 := R8.out.vR.c0
   have g1 := R8.out.vR.c1
   have g2 := R8.out.vR.f0
   have g3 := R8.out.vR.f1
   refine wpAnyH_take (i := 12) (v := ?_) (by simp only [List.getElem?_toArray, List.getElem?_cons_zero, List.getElem?_cons_succ]; rfl) (by kernel_rfl) (by kernel_rfl) (by kernel_rfl) (by exact fun _ _ _ h => h) (Or.inl ⟨by rfl, ?_⟩) (by assumption) ?_
   rotate_left
   · (intro w' hSw; (try dsimp only at hSw); go_simp; try with_reducible rfl)
   try simp only [Act.put, List.setIfInBounds_toArray, List.set_cons_zero, List.set_cons_succ]
   refine wpAnyH_ready (rs := [13]) (by kernel_rfl) (by simp) ?_
   refine AllReadyH.cons (by simp only [List.getElem?_toArray, List.getElem?_cons_zero, List.getElem?_cons_succ]; rfl) (fun K hK => ?_) (AllReadyH.nil)
   go_simp
   go_wp2_with fail
   refine hK.out _ _ ⟨keepS _ _ hHeld.1 (by dsimp only; omega), keepS _ _ hHeld.2.1 (by dsimp only; omega), keepS _ _ hHeld.2.2.1 (by dsimp only; omega), keepS _ _ hHeld.2.2.2 (by dsimp only; omega)⟩ (fun hNext => ?_)
   clear hHeld hK K
   have hHeld := hNext
   clear hNext
   try simp only [Act.put, List.setIfInBounds_toArray, List.set_cons_zero, List.set_cons_succ]
   refine wpAnyH_done (by kernel_rfl) ?_ _
   go_wp2_with fail
   refine bodyPost_ret (v := .agg #[.int .i64 (tv (!q)), .int .i64 (tv p)]) (by simp [results, Tryd.results8, go_sem, *]) rfl ⟨rfl, R8.out.done _ _⟩

set_option maxRecDepth 100000 in
set_option maxHeartbeats 8000000 in
theorem rrange_11 (a b c d : Int) (hab : ¬ b < a) (hcd : ¬ d < c) (w : World) : Calls Tryd.prog 8 #[.int .u8 11, .agg #[.int .i64 a, .int .i64 b], .agg #[.int .i64 c, .int .i64 d]] w (Gives w (iv (tv (!canB (contraryV 11) a b c d)) (tv (canB 11 a b c d)))) := by
  have ea : decide (b < a) = false := by simpa using hab
  have eb : decide (d < c) = false := by simpa using hcd
  have eu : unaryB 11 = false := rfl
  clear hab hcd
  generalize hp : canB 11 a b c d = p
  generalize hq : canB (contraryV 11) a b c d = q
  have HP := Lib.hid hp
  have HQ := Lib.hid hq
  clear hp hq
  cases z1 : (c == 0)
  all_goals cases z2 : (d == 0)
  all_goals
   have R0 := Lib.hid (FBox.start w a b c d)
   go_enter Tryd.func8, Tryd.ntmps8
   go_wp2_with fail
   refine (rempty_any _ _ _).mono ?_; rw [ea]; rintro e w1 ⟨rfl, hb⟩
   have R1 := Lib.hid (R0.out.below hb)
   clear hb
   obtain ⟨k0, k1, k2, k3, _, _⟩ := R1.out
   go_wp2_with fail
   refine (runary_any _ _).mono ?_; rw [eu]; rintro e w2 ⟨rfl, hb⟩
   have R2 := Lib.hid (R1.out.below hb)
   clear hb k0 k1 k2 k3
   obtain ⟨k0, k1, k2, k3, _, _⟩ := R2.out
   go_wp2_with fail
   refine (rempty_any _ _ _).mono ?_; rw [eb]; rintro e w3 ⟨rfl, hb⟩
   have R3 := Lib.hid (R2.out.below hb)
   clear hb k0 k1 k2 k3
   obtain ⟨k0, k1, k2, k3, _, _⟩ := R3.out
   clear R0 R1 R2
   go_wp2_with fail
   refine wp_region_held_drew (S := fun w' => w'.cell? ⟨w.heap.size, 0, none⟩ = some (.int .i64 a) ∧ w'.cell? ⟨w.heap.size, 1, none⟩ = some (.int .i64 b) ∧ w'.cell? ⟨w.heap.size + 1, 0, none⟩ = some (.int .i64 c) ∧ w'.cell? ⟨w.heap.size + 1, 1, none⟩ = some (.int .i64 d)) (by kernel_rfl) ⟨k0, k1, k2, k3⟩ (fun hHeld => ?_)
   have R4 := Lib.hid (R3.out.below (Below.drew (Below.refl _ _)))
   clear R3 k0 k1 k2 k3
   refine wpAnyH_take (i := 0) (v := ?_) (by simp only [List.getElem?_toArray, List.getElem?_cons_zero]; rfl) (by kernel_rfl) (by kernel_rfl) (by kernel_rfl) (by exact fun _ _ _ h => h) (Or.inl ⟨by rfl, ?_⟩) (by assumption) ?_
   rotate_left
   · (intro w' hSw; (try dsimp only at hSw); go_simp; try with_reducible rfl)
   try simp only [Act.put, List.setIfInBounds_toArray, List.set_cons_zero, List.set_cons_succ]
   refine wpAnyH_take (i := 2) (v := ?_) (by simp only [List.getElem?_toArray, List.getElem?_cons_zero, List.getElem?_cons_succ]; rfl) (by kernel_rfl) (by kernel_rfl) (by kernel_rfl) (by exact fun _ _ _ h => h) (Or.inl ⟨by rfl, ?_⟩) (by assumption) ?_
   rotate_left
   · (intro w' hSw; (try dsimp only at hSw); go_simp; try with_reducible rfl)
   try simp only [Act.put, List.setIfInBounds_toArray, List.set_cons_zero, List.set_cons_succ]
   refine wpAnyH_take (i := 3) (v := ?_) (by simp only [List.getElem?_toArray, List.getElem?_cons_zero, List.getElem?_cons_succ]; rfl) (by kernel_rfl) (by kernel_rfl) (by kernel_rfl) (by exact fun _ _ _ h => h) (Or.inl ⟨by rfl, ?_⟩) (by assumption) ?_
   rotate_left
   · (intro w' hSw; (try dsimp only at hSw); go_simp; try with_reducible rfl)
   try simp only [Act.put, List.setIfInBounds_toArray, List.set_cons_zero, List.set_cons_succ]
   refine wpAnyH_take (i := 7) (v := ?_) (by simp only [List.getElem?_toArray, List.getElem?_cons_zero, List.getElem?_cons_succ]; rfl) (by kernel_rfl) (by kernel_rfl) (by kernel_rfl) (by exact fun _ _ _ h => h) (Or.inl ⟨by rfl, ?_⟩) (by assumption) ?_
   rotate_left
   · (intro w' hSw; (try dsimp only at hSw); go_simp; try with_reducible rfl)
   try simp only [Act.put, List.setIfInBounds_toArray, List.set_cons_zero, List.set_cons_succ]
   refine wpAnyH_take (i := 8) (v := ?_) (by simp only [List.getElem?_toArray, List.getElem?_cons_zero, List.getElem?_cons_succ]; rfl) (by kernel_rfl) (by kernel_rfl) (by kernel_rfl) (by exact fun _ _ _ h => h) (Or.inl ⟨by rfl, ?_⟩) (by assumption) ?_
   rotate_left
   · (intro w' hSw; (try dsimp only at hSw); go_simp; try with_reducible rfl)
   try simp only [Act.put, List.setIfInBounds_toArray, List.set_cons_zero, List.set_cons_succ]
   refine wpAnyH_take (i := 9) (v := ?_) (by simp only [List.getElem?_toArray, List.getElem?_cons_zero, List.getElem?_cons_succ]; rfl) (by kernel_rfl) (by kernel_rfl) (by kernel_rfl) (by exact fun _ _ _ h => h) (Or.inl ⟨by rfl, ?_⟩) (by assumption) ?_
   rotate_left
   · (intro w' hSw; (try dsimp only at hSw); go_simp; try with_reducible rfl)
   try simp only [Act.put, List.setIfInBounds_toArray, List.set_cons_zero, List.set_cons_succ]
   refine wpAnyH_ready (rs := [1]) (by kernel_rfl) (by simp) ?_
   refine AllReadyH.cons (by simp only [List.getElem?_toArray, List.getElem?_cons_zero, List.getElem?_cons_succ]; rfl) (fun K hK => ?_) (AllReadyH.nil)
   go_simp
   refine (rcontrary_any 11 (by omega) (by omega) _).mono ?_; rintro e w5 ⟨rfl, rfl⟩
   go_wp2_with fail
   refine hK.out _ _ hHeld (fun hNext => ?_)
   clear hHeld hK K
   have hHeld := hNext
   clear hNext
   try simp only [Act.put, List.setIfInBounds_toArray, List.set_cons_zero, List.set_cons_succ]
   refine wpAnyH_ready (rs := [4]) (by kernel_rfl) (by simp) ?_
   refine AllReadyH.cons (by simp only [List.getElem?_toArray, List.getElem?_cons_zero, List.getElem?_cons_succ]; rfl) (fun K hK => ?_) (AllReadyH.nil)
   go_simp
   refine (rcan_any (contraryV 11) _ _ _ _ (by decide) (by decide) _).mono ?_; rw [HQ.out]; rintro e w5 ⟨rfl, hb⟩
   go_wp2_with fail
   refine hK.out _ _ ⟨keepC hb hHeld.1, keepC hb hHeld.2.1, keepC hb hHeld.2.2.1, keepC hb hHeld.2.2.2⟩ (fun hNext => ?_)
   clear hHeld hK K
   have hHeld := hNext
   clear hNext
   try simp only [Act.put, List.setIfInBounds_toArray, List.set_cons_zero, List.set_cons_succ]
   have R5 := Lib.hid (R4.out.below hb)
   clear hb R4
   refine wpAnyH_take (i := 5) (v := ?_) (by simp only [List.getElem?_toArray, List.getElem?_cons_zero, List.getElem?_cons_succ]; rfl) (by kernel_rfl) (by kernel_rfl) (by kernel_rfl) (by exact fun _ _ _ h => h) (Or.inl ⟨by rfl, ?_⟩) (by assumption) ?_
   rotate_left
   · (intro w' hSw; (try dsimp only at hSw); go_simp; try with_reducible rfl)
   try simp only [Act.put, List.setIfInBounds_toArray, List.set_cons_zero, List.set_cons_succ]
   refine wpAnyH_ready (rs := [6]) (by kernel_rfl) (by simp) ?_
   refine AllReadyH.cons (by simp only [List.getElem?_toArray, List.getElem?_cons_zero, List.getElem?_cons_succ]; rfl) (fun K hK => ?_) (AllReadyH.nil)
   go_simp
   refine (rtruth_any _ _).mono ?_; rintro e w5 ⟨rfl, hb⟩
   go_wp2_with fail
   refine hK.out _ _ ⟨keepC hb hHeld.1, keepC hb hHeld.2.1, keepC hb hHeld.2.2.1, keepC hb hHeld.2.2.2⟩ (fun hNext => ?_)
   clear hHeld hK K
   have hHeld := hNext
   clear hNext
   try simp only [Act.put, List.setIfInBounds_toArray, List.set_cons_zero, List.set_cons_succ]
   have R6 := Lib.hid (R5.out.below hb)
   clear hb R5
   refine wpAnyH_ready (rs := [10]) (by kernel_rfl) (by simp) ?_
   refine AllReadyH.cons (by simp only [List.getElem?_toArray, List.getElem?_cons_zero, List.getElem?_cons_succ]; rfl) (fun K hK => ?_) (AllReadyH.nil)
   go_simp
   refine (rcan_any 11 _ _ _ _ (by omega) (by omega) _).mono ?_; rw [HP.out]; rintro e w5 ⟨rfl, hb⟩
   go_wp2_with fail
   refine hK.out _ _ ⟨keepC hb hHeld.1, keepC hb hHeld.2.1, keepC hb hHeld.2.2.1, keepC hb hHeld.2.2.2⟩ (fun hNext => ?_)
   clear hHeld hK K
   have hHeld := hNext
   clear hNext
   try simp only [Act.put, List.setIfInBounds_toArray, List.set_cons_zero, List.set_cons_succ]
   have R7 := Lib.hid (R6.out.below hb)
   clear hb R6
   refine wpAnyH_ready (rs := [11]) (by kernel_rfl) (by simp) ?_
   refine AllReadyH.cons (by simp only [List.getElem?_toArray, List.getElem?_cons_zero, List.getElem?_cons_succ]; rfl) (fun K hK => ?_) (AllReadyH.nil)
   go_simp
   refine (rtruth_any _ _).mono ?_; rintro e w5 ⟨rfl, hb⟩
   go_wp2_with fail
   refine hK.out _ _ ⟨keepC hb hHeld.1, keepC hb hHeld.2.1, keepC hb hHeld.2.2.1, keepC hb hHeld.2.2.2⟩ (fun hNext => ?_)
   clear hHeld hK K
   have hHeld := hNext
   clear hNext
   try simp only [Act.put, List.setIfInBounds_toArray, List.set_cons_zero, List.set_cons_succ]
   have R8 := Lib.hid (R7.out.below hb)
   clear hb R7
   have g0 := R8.out.vR.c0
   have g1 := R8.out.vR.c1
   have g2 := R8.out.vR.f0
   have g3 := R8.out.vR.f1
   refine wpAnyH_take (i := 12) (v := ?_) (by simp only [List.getElem?_toArray, List.getElem?_cons_zero, List.getElem?_cons_succ]; rfl) (by kernel_rfl) (by kernel_rfl) (by kernel_rfl) (by exact fun _ _ _ h => h) (Or.inl ⟨by rfl, ?_⟩) (by assumption) ?_
   rotate_left
   · (intro w' hSw; (try dsimp only at hSw); go_simp; try with_reducible rfl)
   try simp only [Act.put, List.setIfInBounds_toArray, List.set_cons_zero, List.set_cons_succ]
   refine wpAnyH_ready (rs := [13]) (by kernel_rfl) (by simp) ?_
   refine AllReadyH.cons (by simp only [List.getElem?_toArray, List.getElem?_cons_zero, List.getElem?_cons_succ]; rfl) (fun K hK => ?_) (AllReadyH.nil)
   go_simp
   go_wp2_with fail
   refine hK.out _ _ ⟨keepS _ _ hHeld.1 (by dsimp only; omega), keepS _ _ hHeld.2.1 (by dsimp only; omega), keepS _ _ hHeld.2.2.1 (by dsimp only; omega), keepS _ _ hHeld.2.2.2 (by dsimp only; omega)⟩ (fun hNext => ?_)
   clear hHeld hK K
   have hHeld := hNext
   clear hNext
   try simp only [Act.put, List.setIfInBounds_toArray, List.set_cons_zero, List.set_cons_succ]
   refine wpAnyH_done (by kernel_rfl) ?_ _
   go_wp2_with fail
   refine bodyPost_ret (v := .agg #[.int .i64 (tv (!q)), .int .i64 (tv p)]) (by simp [results, Tryd.results8, go_sem, *]) rfl ⟨rfl, R8.out.done _ _⟩

set_option maxRecDepth 100000 in
set_option maxHeartbeats 8000000 in
theorem rrange_12 (a b c d : Int) (hab : ¬ b < a) (hcd : ¬ d < c) (w : World) : Calls Tryd.prog 8 #[.int .u8 12, .agg #[.int .i64 a, .int .i64 b], .agg #[.int .i64 c, .int .i64 d]] w (Gives w (iv (tv (!canB (contraryV 12) a b c d)) (tv (canB 12 a b c d)))) := by
  have ea : decide (b < a) = false := by simpa using hab
  have eb : decide (d < c) = false := by simpa using hcd
  have eu : unaryB 12 = false := rfl
  clear hab hcd
  generalize hp : canB 12 a b c d = p
  generalize hq : canB (contraryV 12) a b c d = q
  have HP := Lib.hid hp
  have HQ := Lib.hid hq
  clear hp hq
  cases z1 : (c == 0)
  all_goals cases z2 : (d == 0)
  all_goals
   have R0 := Lib.hid (FBox.start w a b c d)
   go_enter Tryd.func8, Tryd.ntmps8
   go_wp2_with fail
   refine (rempty_any _ _ _).mono ?_; rw [ea]; rintro e w1 ⟨rfl, hb⟩
   have R1 := Lib.hid (R0.out.below hb)
   clear hb
   obtain ⟨k0, k1, k2, k3, _, _⟩ := R1.out
   go_wp2_with fail
   refine (runary_any _ _).mono ?_; rw [eu]; rintro e w2 ⟨rfl, hb⟩
   have R2 := Lib.hid (R1.out.below hb)
   clear hb k0 k1 k2 k3
   obtain ⟨k0, k1, k2, k3, _, _⟩ := R2.out
   go_wp2_with fail
   refine (rempty_any _ _ _).mono ?_; rw [eb]; rintro e w3 ⟨rfl, hb⟩
   have R3 := Lib.hid (R2.out.below hb)
   clear hb k0 k1 k2 k3
   obtain ⟨k0, k1, k2, k3, _, _⟩ := R3.out
   clear R0 R1 R2
   go_wp2_with fail
   refine wp_region_held_drew (S := fun w' => w'.cell? ⟨w.heap.size, 0, none⟩ = some (.int .i64 a) ∧ w'.cell? ⟨w.heap.size, 1, none⟩ = some (.int .i64 b) ∧ w'.cell? ⟨w.heap.size + 1, 0, none⟩ = some (.int .i64 c) ∧ w'.cell? ⟨w.heap.size + 1, 1, none⟩ = some (.int .i64 d)) (by kernel_rfl) ⟨k0, k1, k2, k3⟩ (fun hHeld => ?_)
   have R4 := Lib.hid (R3.out.below (Below.drew (Below.refl _ _)))
   clear R3 k0 k1 k2 k3
   refine wpAnyH_take (i := 0) (v := ?_) (by simp only [List.getElem?_toArray, List.getElem?_cons_zero]; rfl) (by kernel_rfl) (by kernel_rfl) (by kernel_rfl) (by exact fun _ _ _ h => h) (Or.inl ⟨by rfl, ?_⟩) (by assumption) ?_
   rotate_left
   · (intro w' hSw; (try dsimp only at hSw); go_simp; try with_reducible rfl)
   try simp only [Act.put, List.setIfInBounds_toArray, List.set_cons_zero, List.set_cons_succ]
   refine wpAnyH_take (i := 2) (v := ?_) (by simp only [List.getElem?_toArray, List.getElem?_cons_zero, List.getElem?_cons_succ]; rfl) (by kernel_rfl) (by kernel_rfl) (by kernel_rfl) (by exact fun _ _ _ h => h) (Or.inl ⟨by rfl, ?_⟩) (by assumption) ?_
   rotate_left
   · (intro w' hSw; (try dsimp only at hSw); go_simp; try with_reducible rfl)
   try simp only [Act.put, List.setIfInBounds_toArray, List.set_cons_zero, List.set_cons_succ]
   refine wpAnyH_take (i := 3) (v := ?_) (by simp only [List.getElem?_toArray, List.getElem?_cons_zero, List.getElem?_cons_succ]; rfl) (by kernel_rfl) (by kernel_rfl) (by kernel_rfl) (by exact fun _ _ _ h => h) (Or.inl ⟨by rfl, ?_⟩) (by assumption) ?_
   rotate_left
   · (intro w' hSw; (try dsimp only at hSw); go_simp; try with_reducible rfl)
   try simp only [Act.put, List.setIfInBounds_toArray, List.set_cons_zero, List.set_cons_succ]
   refine wpAnyH_take (i := 7) (v := ?_) (by simp only [List.getElem?_toArray, List.getElem?_cons_zero, List.getElem?_cons_succ]; rfl) (by kernel_rfl) (by kernel_rfl) (by kernel_rfl) (by exact fun _ _ _ h => h) (Or.inl ⟨by rfl, ?_⟩) (by assumption) ?_
   rotate_left
   · (intro w' hSw; (try dsimp only at hSw); go_simp; try with_reducible rfl)
   try simp only [Act.put, List.setIfInBounds_toArray, List.set_cons_zero, List.set_cons_succ]
   refine wpAnyH_take (i := 8) (v := ?_) (by simp only [List.getElem?_toArray, List.getElem?_cons_zero, List.getElem?_cons_succ]; rfl) (by kernel_rfl) (by kernel_rfl) (by kernel_rfl) (by exact fun _ _ _ h => h) (Or.inl ⟨by rfl, ?_⟩) (by assumption) ?_
   rotate_left
   · (intro w' hSw; (try dsimp only at hSw); go_simp; try with_reducible rfl)
   try simp only [Act.put, List.setIfInBounds_toArray, List.set_cons_zero, List.set_cons_succ]
   refine wpAnyH_take (i := 9) (v := ?_) (by simp only [List.getElem?_toArray, List.getElem?_cons_zero, List.getElem?_cons_succ]; rfl) (by kernel_rfl) (by kernel_rfl) (by kernel_rfl) (by exact fun _ _ _ h => h) (Or.inl ⟨by rfl, ?_⟩) (by assumption) ?_
   rotate_left
   · (intro w' hSw; (try dsimp only at hSw); go_simp; try with_reducible rfl)
   try simp only [Act.put, List.setIfInBounds_toArray, List.set_cons_zero, List.set_cons_succ]
   refine wpAnyH_ready (rs := [1]) (by kernel_rfl) (by simp) ?_
   refine AllReadyH.cons (by simp only [List.getElem?_toArray, List.getElem?_cons_zero, List.getElem?_cons_succ]; rfl) (fun K hK => ?_) (AllReadyH.nil)
   go_simp
   refine (rcontrary_any 12 (by omega) (by omega) _).mono ?_; rintro e w5 ⟨rfl, rfl⟩
   go_wp2_with fail
   refine hK.out _ _ hHeld (fun hNext => ?_)
   clear hHeld hK K
   have hHeld := hNext
   clear hNext
   try simp only [Act.put, List.setIfInBounds_toArray, List.set_cons_zero, List.set_cons_succ]
   refine wpAnyH_ready (rs := [4]) (by kernel_rfl) (by simp) ?_
   refine AllReadyH.cons (by simp only [List.getElem?_toArray, List.getElem?_cons_zero, List.getElem?_cons_succ]; rfl) (fun K hK => ?_) (AllReadyH.nil)
   go_simp
   refine (rcan_any (contraryV 12) _ _ _ _ (by decide) (by decide) _).mono ?_; rw [HQ.out]; rintro e w5 ⟨rfl, hb⟩
   go_wp2_with fail
   refine hK.out _ _ ⟨keepC hb hHeld.1, keepC hb hHeld.2.1, keepC hb hHeld.2.2.1, keepC hb hHeld.2.2.2⟩ (fun hNext => ?_)
   clear hHeld hK K
   have hHeld := hNext
   clear hNext
   try simp only [Act.put, List.setIfInBounds_toArray, List.set_cons_zero, List.set_cons_succ]
   have R5 := Lib.hid (R4.out.below hb)
   clear hb R4
   refine wpAnyH_take (i := 5) (v := ?_) (by simp only [List.getElem?_toArray, List.getElem?_cons_zero, List.getElem?_cons_succ]; rfl) (by kernel_rfl) (by kernel_rfl) (by kernel_rfl) (by exact fun _ _ _ h => h) (Or.inl ⟨by rfl, ?_⟩) (by assumption) ?_
   rotate_left
   · (intro w' hSw; (try dsimp only at hSw); go_simp; try with_reducible rfl)
   try simp only [Act.put, List.setIfInBounds_toArray, List.set_cons_zero, List.set_cons_succ]
   refine wpAnyH_ready (rs := [6]) (by kernel_rfl) (by simp) ?_
   refine AllReadyH.cons (by simp only [List.getElem?_toArray, List.getElem?_cons_zero, List.getElem?_cons_succ]; rfl) (fun K hK => ?_) (AllReadyH.nil)
   go_simp
   refine (rtruth_any _ _).mono ?_; rintro e w5 ⟨rfl, hb⟩
   go_wp2_with fail
   refine hK.out _ _ ⟨keepC hb hHeld.1, keepC hb hHeld.2.1, keepC hb hHeld.2.2.1, keepC hb hHeld.2.2.2⟩ (fun hNext => ?_)
   clear hHeld hK K
   have hHeld := hNext
   clear hNext
   try simp only [Act.put, List.setIfInBounds_toArray, List.set_cons_zero, List.set_cons_succ]
   have R6 := Lib.hid (R5.out.below hb)
   clear hb R5
   refine wpAnyH_ready (rs := [10]) (by kernel_rfl) (by simp) ?_
   refine AllReadyH.cons (by simp only [List.getElem?_toArray, List.getElem?_cons_zero, List.getElem?_cons_succ]; rfl) (fun K hK => ?_) (AllReadyH.nil)
   go_simp
   refine (rcan_any 12 _ _ _ _ (by omega) (by omega) _).mono ?_; rw [HP.out]; rintro e w5 ⟨rfl, hb⟩
   go_wp2_with fail
   refine hK.out _ _ ⟨keepC hb hHeld.1, keepC hb hHeld.2.1, keepC hb hHeld.2.2.1, keepC hb hHeld.2.2.2⟩ (fun hNext => ?_)
   clear hHeld hK K
   have hHeld := hNext
   clear hNext
   try simp only [Act.put, List.setIfInBounds_toArray, List.set_cons_zero, List.set_cons_succ]
   have R7 := Lib.hid (R6.out.below hb)
   clear hb R6
   refine wpAnyH_ready (rs := [11]) (by kernel_rfl) (by simp) ?_
   refine AllReadyH.cons (by simp only [List.getElem?_toArray, List.getElem?_cons_zero, List.getElem?_cons_succ]; rfl) (fun K hK => ?_) (AllReadyH.nil)
   go_simp
   refine (rtruth_any _ _).mono ?_; rintro e w5 ⟨rfl, hb⟩
   go_wp2_with fail
   refine hK.out _ _ ⟨keepC hb hHeld.1, keepC hb hHeld.2.1, keepC hb hHeld.2.2.1, keepC hb hHeld.2.2.2⟩ (fun hNext => ?_)
   clear hHeld hK K
   have hHeld := hNext
   clear hNext
   try simp only [Act.put, List.setIfInBounds_toArray, List.set_cons_zero, List.set_cons_succ]
   have R8 := Lib.hid (R7.out.below hb)
   clear hb R7
   have g0 := R8.out.vR.c0
   have g1 := R8.out.vR.c1
   have g2 := R8.out.vR.f0
   have g3 := R8.out.vR.f1
   refine wpAnyH_take (i := 12) (v := ?_) (by simp only [List.getElem?_toArray, List.getElem?_cons_zero, List.getElem?_cons_succ]; rfl) (by kernel_rfl) (by kernel_rfl) (by kernel_rfl) (by exact fun _ _ _ h => h) (Or.inl ⟨by rfl, ?_⟩) (by assumption) ?_
   rotate_left
   · (intro w' hSw; (try dsimp only at hSw); go_simp; try with_reducible rfl)
   try simp only [Act.put, List.setIfInBounds_toArray, List.set_cons_zero, List.set_cons_succ]
   refine wpAnyH_ready (rs := [13]) (by kernel_rfl) (by simp) ?_
   refine AllReadyH.cons (by simp only [List.getElem?_toArray, List.getElem?_cons_zero, List.getElem?_cons_succ]; rfl) (fun K hK => ?_) (AllReadyH.nil)
   go_simp
   go_wp2_with fail
   refine hK.out _ _ ⟨keepS _ _ hHeld.1 (by dsimp only; omega), keepS _ _ hHeld.2.1 (by dsimp only; omega), keepS _ _ hHeld.2.2.1 (by dsimp only; omega), keepS _ _ hHeld.2.2.2 (by dsimp only; omega)⟩ (fun hNext => ?_)
   clear hHeld hK K
   have hHeld := hNext
   clear hNext
   try simp only [Act.put, List.setIfInBounds_toArray, List.set_cons_zero, List.set_cons_succ]
   refine wpAnyH_done (by kernel_rfl) ?_ _
   go_wp2_with fail
   refine bodyPost_ret (v := .agg #[.int .i64 (tv (!q)), .int .i64 (tv p)]) (by simp [results, Tryd.results8, go_sem, *]) rfl ⟨rfl, R8.out.done _ _⟩

end Go.Proofs.YtdbfaekdkjclcaaDoor
