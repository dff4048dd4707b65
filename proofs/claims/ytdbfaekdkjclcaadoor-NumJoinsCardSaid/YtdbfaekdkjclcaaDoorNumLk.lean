
/-
  THE WALK OF THE LAW NumJoins: the first region's orders, a lemma for each state of it.
-/
import Derived.Test.YtdbfaekdkjclcaaDoorNumRa
import Derived.Test.YtdbfaekdkjclcaaDoorNumLe
import Derived.Test.YtdbfaekdkjclcaaDoorNumLj
import Derived.Deep.DeepCutAuto
namespace Go.Proofs.YtdbfaekdkjclcaaDoor
open Go Go.RowKit

/-- What is left of a region, under one name. -/
theorem name_any {P : Program} {md : Region.Mode} {ops : Array Oper} {Q : Exit → Act → World → Prop} {S : World → Prop} {fuel : Nat} {listed : Array Bool} {a : Act} {w : World}
    (h : ∀ R : Nat → Array Bool → Act → World → Prop, R = wpAnyH P md ops Q S → R fuel listed a w) : wpAnyH P md ops Q S fuel listed a w := h _ rfl

/-- A new variable of two cells. -/
structure New2 (w W : World) (g : Nat) (x y : Int) : Prop where
  far : w.heap.size + 3 ≤ g
  lt : g < W.heap.size
  c0 : W.cell? ⟨g, 0, none⟩ = some (.int .i64 x)
  c1 : W.cell? ⟨g, 1, none⟩ = some (.int .i64 y)
  f0 : W.frozen? ⟨g, 0, none⟩ = false
  f1 : W.frozen? ⟨g, 1, none⟩ = false
theorem New2.below {w W w1 : World} {g : Nat} {x y : Int} (h : New2 w W g x y) (hb : Below W.heap.size W w1) : New2 w w1 g x y :=
  ⟨h.far, by have := hb.size; have := h.lt; omega, keepC hb h.c0, keepC hb h.c1, keepF hb h.c0 h.f0, keepF hb h.c1 h.f1⟩
theorem New2.alloc {w W : World} {g : Nat} {x y : Int} (h : New2 w W g x y) (o : Obj) : New2 w (W.alloc o) g x y := h.below ((Below.refl _ _).alloc (Nat.le_refl _) o)
theorem New2.made {w W : World} (h : w.heap.size + 3 ≤ W.heap.size) (x y : Int) : New2 w (W.alloc (.cells #[.int .i64 x, .int .i64 y] 24)) W.heap.size x y :=
  ⟨h, by simp, by go_cell, by go_cell, by go_cell, by go_cell⟩
theorem New2.far_store {w W : World} {g g' : Nat} {x y : Int} (h : New2 w W g x y) (hne : ¬ g' = g) (u u' : Value) : New2 w ((W.setCell ⟨g', 0, none⟩ u).setCell ⟨g', 1, none⟩ u') g x y :=
  ⟨h.far, by simpa using h.lt, keepS u u' h.c0 hne, keepS u u' h.c1 hne, by rw [World.frozen?_setCell, World.frozen?_setCell]; exact h.f0, by rw [World.frozen?_setCell, World.frozen?_setCell]; exact h.f1⟩
theorem New2.store {w W : World} {g : Nat} {x y : Int} (h : New2 w W g x y) (x' y' : Int) : New2 w ((W.setCell ⟨g, 0, none⟩ (.int .i64 x')).setCell ⟨g, 1, none⟩ (.int .i64 y')) g x' y' :=
  ⟨h.far, by simpa using h.lt, by rw [World.cell?_setCell_other _ _ _ _ (by simp)]; exact World.cell?_setCell_same _ _ _ h.c0,
    World.cell?_setCell_same _ _ _ (by rw [World.cell?_setCell_other _ _ _ _ (by simp)]; exact h.c1), by rw [World.frozen?_setCell, World.frozen?_setCell]; exact h.f0, by rw [World.frozen?_setCell, World.frozen?_setCell]; exact h.f1⟩

/-- WHAT THE BLOCKS HOLD behind the first statement. -/
structure JBox (w : World) (a0 a1 b0 b1 c0 c1 : Int) (W : World) : Prop where
  a0 : W.cell? ⟨w.heap.size, 0, none⟩ = some (.int .i64 a0)
  a1 : W.cell? ⟨w.heap.size, 1, none⟩ = some (.int .i64 a1)
  b0 : W.cell? ⟨w.heap.size + 1, 0, none⟩ = some (.int .i64 b0)
  b1 : W.cell? ⟨w.heap.size + 1, 1, none⟩ = some (.int .i64 b1)
  c0 : W.cell? ⟨w.heap.size + 1 + 1, 0, none⟩ = some (.int .i64 c0)
  c1 : W.cell? ⟨w.heap.size + 1 + 1, 1, none⟩ = some (.int .i64 c1)
  bel : Below w.heap.size w W

set_option maxRecDepth 100000 in
set_option maxHeartbeats 40000000 in
theorem joins_first (a0 a1 b0 b1 c0 c1 v j0 j1 m0 m1 x0 x1 : Int) (w : World) (L : Laid w) (ha0 : I64 a0) (ha1 : I64 a1) (hb0 : I64 b0) (hb1 : I64 b1)
    (hj : joinV a0 a1 b0 b1 = .agg #[.int .i64 j0, .int .i64 j1]) (hm : meetV a0 a1 b0 b1 = .agg #[.int .i64 m0, .int .i64 m1]) (hx : widenV a0 a1 b0 b1 c0 c1 = .agg #[.int .i64 x0, .int .i64 x1]) :
    Calls Tryd.prog 4 #[.agg #[.int .i64 a0, .int .i64 a1], .agg #[.int .i64 b0, .int .i64 b1], .agg #[.int .i64 c0, .int .i64 c1], .int .i64 v] w (Gives w (.bool true)) := by
  have HJ := Lib.hid hj
  have HM := Lib.hid hm
  have HX := Lib.hid hx
  have HL := Lib.hid L
  have HF := Lib.hid (joins_facts a0 a1 b0 b1 c0 c1 v j0 j1 m0 m1 x0 x1 ha0 ha1 hb0 hb1 hj hm hx)
  clear hj hm hx L ha0 ha1 hb0 hb1
  go_enter Tryd.func4, Tryd.ntmps4
  go_upto_region 1 with fail
  go_cut [9, 10, 11] (fun s9 s10 s11 wx => ∃ g9 g10 g11 : Nat, s9 = .pointer (some ⟨g9, 0, none⟩) ∧ s10 = .pointer (some ⟨g10, 0, none⟩) ∧ s11 = .pointer (some ⟨g11, 0, none⟩) ∧ JBox w a0 a1 b0 b1 c0 c1 wx ∧ New2 w wx g9 j0 j1 ∧ New2 w wx g10 m0 m1 ∧ New2 w wx g11 x0 x1)
  case first =>
    refine wp_region_held_drew (S := fun w' => w'.cell? ⟨w.heap.size, 0, none⟩ = some (.int .i64 a0) ∧ w'.cell? ⟨w.heap.size, 1, none⟩ = some (.int .i64 a1) ∧ w'.cell? ⟨w.heap.size + 1, 0, none⟩ = some (.int .i64 b0) ∧ w'.cell? ⟨w.heap.size + 1, 1, none⟩ = some (.int .i64 b1) ∧ w'.cell? ⟨w.heap.size + 1 + 1, 0, none⟩ = some (.int .i64 c0) ∧ w'.cell? ⟨w.heap.size + 1 + 1, 1, none⟩ = some (.int .i64 c1) ∧ Below w.heap.size w w') (by kernel_rfl) ?_ (fun hHeld => ?_)
    · (try dsimp only)
      refine ⟨?_, ?_, ?_, ?_, ?_, ?_, ?_⟩ <;> first | go_cell | go_grown
    refine wpAnyH_take (i := 0) (v := ?_) (by simp only [List.getElem?_toArray, List.getElem?_cons_zero, List.getElem?_cons_succ]; rfl) (by kernel_rfl) (by kernel_rfl) (by kernel_rfl) (by exact fun _ _ _ h => h) (Or.inl ⟨by rfl, ?_⟩) (by assumption) ?_
    rotate_left
    · (intro w' hSw; (try dsimp only at hSw); go_simp; try with_reducible rfl)
    try simp only [Act.put, List.setIfInBounds_toArray, List.set_cons_zero, List.set_cons_succ]
    refine wpAnyH_take (i := 1) (v := ?_) (by simp only [List.getElem?_toArray, List.getElem?_cons_zero, List.getElem?_cons_succ]; rfl) (by kernel_rfl) (by kernel_rfl) (by kernel_rfl) (by exact fun _ _ _ h => h) (Or.inl ⟨by rfl, ?_⟩) (by assumption) ?_
    rotate_left
    · (intro w' hSw; (try dsimp only at hSw); go_simp; try with_reducible rfl)
    try simp only [Act.put, List.setIfInBounds_toArray, List.set_cons_zero, List.set_cons_succ]
    refine wpAnyH_take (i := 3) (v := ?_) (by simp only [List.getElem?_toArray, List.getElem?_cons_zero, List.getElem?_cons_succ]; rfl) (by kernel_rfl) (by kernel_rfl) (by kernel_rfl) (by exact fun _ _ _ h => h) (Or.inl ⟨by rfl, ?_⟩) (by assumption) ?_
    rotate_left
    · (intro w' hSw; (try dsimp only at hSw); go_simp; try with_reducible rfl)
    try simp only [Act.put, List.setIfInBounds_toArray, List.set_cons_zero, List.set_cons_succ]
    refine wpAnyH_take (i := 4) (v := ?_) (by simp only [List.getElem?_toArray, List.getElem?_cons_zero, List.getElem?_cons_succ]; rfl) (by kernel_rfl) (by kernel_rfl) (by kernel_rfl) (by exact fun _ _ _ h => h) (Or.inl ⟨by rfl, ?_⟩) (by assumption) ?_
    rotate_left
    · (intro w' hSw; (try dsimp only at hSw); go_simp; try with_reducible rfl)
    try simp only [Act.put, List.setIfInBounds_toArray, List.set_cons_zero, List.set_cons_succ]
    refine wpAnyH_take (i := 6) (v := ?_) (by simp only [List.getElem?_toArray, List.getElem?_cons_zero, List.getElem?_cons_succ]; rfl) (by kernel_rfl) (by kernel_rfl) (by kernel_rfl) (by exact fun _ _ _ h => h) (Or.inl ⟨by rfl, ?_⟩) (by assumption) ?_
    rotate_left
    · (intro w' hSw; (try dsimp only at hSw); go_simp; try with_reducible rfl)
    try simp only [Act.put, List.setIfInBounds_toArray, List.set_cons_zero, List.set_cons_succ]
    refine wpAnyH_take (i := 7) (v := ?_) (by simp only [List.getElem?_toArray, List.getElem?_cons_zero, List.getElem?_cons_succ]; rfl) (by kernel_rfl) (by kernel_rfl) (by kernel_rfl) (by exact fun _ _ _ h => h) (Or.inl ⟨by rfl, ?_⟩) (by assumption) ?_
    rotate_left
    · (intro w' hSw; (try dsimp only at hSw); go_simp; try with_reducible rfl)
    try simp only [Act.put, List.setIfInBounds_toArray, List.set_cons_zero, List.set_cons_succ]
    refine wpAnyH_take (i := 8) (v := ?_) (by simp only [List.getElem?_toArray, List.getElem?_cons_zero, List.getElem?_cons_succ]; rfl) (by kernel_rfl) (by kernel_rfl) (by kernel_rfl) (by exact fun _ _ _ h => h) (Or.inl ⟨by rfl, ?_⟩) (by assumption) ?_
    rotate_left
    · (intro w' hSw; (try dsimp only at hSw); go_simp; try with_reducible rfl)
    try simp only [Act.put, List.setIfInBounds_toArray, List.set_cons_zero, List.set_cons_succ]
    refine name_any ?_
    intro R hR
    have st_3_91011_3 : ∀ (W : World) (g9 g10 g11 : Nat), (fun w' => w'.cell? ⟨w.heap.size, 0, none⟩ = some (.int .i64 a0) ∧ w'.cell? ⟨w.heap.size, 1, none⟩ = some (.int .i64 a1) ∧ w'.cell? ⟨w.heap.size + 1, 0, none⟩ = some (.int .i64 b0) ∧ w'.cell? ⟨w.heap.size + 1, 1, none⟩ = some (.int .i64 b1) ∧ w'.cell? ⟨w.heap.size + 1 + 1, 0, none⟩ = some (.int .i64 c0) ∧ w'.cell? ⟨w.heap.size + 1 + 1, 1, none⟩ = some (.int .i64 c1) ∧ Below w.heap.size w w') W → New2 w W g9 j0 j1 → New2 w W g10 m0 m1 → New2 w W g11 x0 x1 → ¬ g9 = g10 → ¬ g9 = g11 → ¬ g10 = g11 → R 0 #[true, true, true, true, true, true, true, true, true, true, true, true, true, true, true, true] { tmps := #[Value.agg #[Value.int IntKind.i64 a0, Value.int IntKind.i64 a1], Value.agg #[Value.int IntKind.i64 b0, Value.int IntKind.i64 b1], Value.agg #[Value.int IntKind.i64 c0, Value.int IntKind.i64 c1], Value.int IntKind.i64 v, Value.pointer (some ⟨w.heap.size, 0, none⟩), Value.pointer (some ⟨w.heap.size + 1, 0, none⟩), Value.pointer (some ⟨w.heap.size + 1 + 1, 0, none⟩), undef, Value.bool false, Value.pointer (some ⟨g9, 0, none⟩), Value.pointer (some ⟨g10, 0, none⟩), Value.pointer (some ⟨g11, 0, none⟩), Value.agg #[Value.int IntKind.i64 a0, Value.int IntKind.i64 a1], Value.agg #[Value.int IntKind.i64 b0, Value.int IntKind.i64 b1], Value.agg #[Value.int IntKind.i64 j0, Value.int IntKind.i64 j1], Value.agg #[Value.int IntKind.i64 a0, Value.int IntKind.i64 a1], Value.agg #[Value.int IntKind.i64 b0, Value.int IntKind.i64 b1], Value.agg #[Value.int IntKind.i64 m0, Value.int IntKind.i64 m1], Value.agg #[Value.int IntKind.i64 a0, Value.int IntKind.i64 a1], Value.agg #[Value.int IntKind.i64 b0, Value.int IntKind.i64 b1], Value.agg #[Value.int IntKind.i64 c0, Value.int IntKind.i64 c1], Value.agg #[Value.int IntKind.i64 x0, Value.int IntKind.i64 x1], undef, undef, undef, undef, undef, undef, undef, undef, undef, undef, undef, undef, undef, undef, undef, undef, undef, undef, undef, undef, undef, undef, undef, undef, undef, undef, undef, undef, undef, undef, undef, undef, undef, undef, undef, undef, undef, undef, undef, undef, undef, undef, undef, undef, undef, undef, undef, undef, undef, undef, undef, undef, undef, undef, undef, undef, undef, undef, undef, undef, undef, undef, undef, undef, undef, undef, undef, undef, undef, undef, undef, undef, undef, undef], defers := [] } W := by
      intro W g9 g10 g11 hHeld n9 n10 n11 d9_10 d9_11 d10_11
      have hBW := hHeld.2.2.2.2.2.2
      rw [hR]
      refine wpAnyH_done (by kernel_rfl) ?_ _
      go_wp2_with fail
      go_meet
      exact ⟨g9, g10, g11, rfl, rfl, rfl, ⟨hHeld.1, hHeld.2.1, hHeld.2.2.1, hHeld.2.2.2.1, hHeld.2.2.2.2.1, hHeld.2.2.2.2.2.1, hBW⟩, n9, n10, n11⟩
    have st_3_91011_2 : ∀ (W : World) (g9 g10 g11 : Nat), (fun w' => w'.cell? ⟨w.heap.size, 0, none⟩ = some (.int .i64 a0) ∧ w'.cell? ⟨w.heap.size, 1, none⟩ = some (.int .i64 a1) ∧ w'.cell? ⟨w.heap.size + 1, 0, none⟩ = some (.int .i64 b0) ∧ w'.cell? ⟨w.heap.size + 1, 1, none⟩ = some (.int .i64 b1) ∧ w'.cell? ⟨w.heap.size + 1 + 1, 0, none⟩ = some (.int .i64 c0) ∧ w'.cell? ⟨w.heap.size + 1 + 1, 1, none⟩ = some (.int .i64 c1) ∧ Below w.heap.size w w') W → New2 w W g9 j0 j1 → New2 w W g10 m0 m1 → New2 w W g11 0 0 → ¬ g9 = g10 → ¬ g9 = g11 → ¬ g10 = g11 → R 1 #[true, true, true, true, true, true, true, true, true, true, true, true, true, true, true, false] { tmps := #[Value.agg #[Value.int IntKind.i64 a0, Value.int IntKind.i64 a1], Value.agg #[Value.int IntKind.i64 b0, Value.int IntKind.i64 b1], Value.agg #[Value.int IntKind.i64 c0, Value.int IntKind.i64 c1], Value.int IntKind.i64 v, Value.pointer (some ⟨w.heap.size, 0, none⟩), Value.pointer (some ⟨w.heap.size + 1, 0, none⟩), Value.pointer (some ⟨w.heap.size + 1 + 1, 0, none⟩), undef, Value.bool false, Value.pointer (some ⟨g9, 0, none⟩), Value.pointer (some ⟨g10, 0, none⟩), Value.pointer (some ⟨g11, 0, none⟩), Value.agg #[Value.int IntKind.i64 a0, Value.int IntKind.i64 a1], Value.agg #[Value.int IntKind.i64 b0, Value.int IntKind.i64 b1], Value.agg #[Value.int IntKind.i64 j0, Value.int IntKind.i64 j1], Value.agg #[Value.int IntKind.i64 a0, Value.int IntKind.i64 a1], Value.agg #[Value.int IntKind.i64 b0, Value.int IntKind.i64 b1], Value.agg #[Value.int IntKind.i64 m0, Value.int IntKind.i64 m1], Value.agg #[Value.int IntKind.i64 a0, Value.int IntKind.i64 a1], Value.agg #[Value.int IntKind.i64 b0, Value.int IntKind.i64 b1], Value.agg #[Value.int IntKind.i64 c0, Value.int IntKind.i64 c1], Value.agg #[Value.int IntKind.i64 x0, Value.int IntKind.i64 x1], undef, undef, undef, undef, undef, undef, undef, undef, undef, undef, undef, undef, undef, undef, undef, undef, undef, undef, undef, undef, undef, undef, undef, undef, undef, undef, undef, undef, undef, undef, undef, undef, undef, undef, undef, undef, undef, undef, undef, undef, undef, undef, undef, undef, undef, undef, undef, undef, undef, undef, undef, undef, undef, undef, undef, undef, undef, undef, undef, undef, undef, undef, undef, undef, undef, undef, undef, undef, undef, undef, undef, undef, undef, undef], defers := [] } W := by
      intro W g9 g10 g11 hHeld n9 n10 n11 d9_10 d9_11 d10_11
      have hBW := hHeld.2.2.2.2.2.2
      rw [hR]
      have z9 := n9.far
      have z10 := n10.far
      have z11 := n11.far
      have k0 := n11.c0
      have k1 := n11.c1
      have k2 := n11.f0
      have k3 := n11.f1
      refine wpAnyH_ready (rs := [15]) (by kernel_rfl) (by simp) ?_
      refine AllReadyH.cons (by simp only [List.getElem?_toArray, List.getElem?_cons_zero, List.getElem?_cons_succ]; rfl) (fun K hK => ?_) (AllReadyH.nil)
      go_simp
      go_wp2_with fail
      refine hK.out _ _ ⟨keepS _ _ hHeld.1 (by dsimp only; omega), keepS _ _ hHeld.2.1 (by dsimp only; omega), keepS _ _ hHeld.2.2.1 (by dsimp only; omega), keepS _ _ hHeld.2.2.2.1 (by dsimp only; omega), keepS _ _ hHeld.2.2.2.2.1 (by dsimp only; omega), keepS _ _ hHeld.2.2.2.2.2.1 (by dsimp only; omega), Below.setCell (Below.setCell hHeld.2.2.2.2.2.2 (by dsimp only; omega) _) (by dsimp only; omega) _⟩ (fun hNext => ?_)
      clear hHeld hK K
      have hHeld := hNext
      clear hNext
      try simp only [Act.put, List.setIfInBounds_toArray, List.set_cons_zero, List.set_cons_succ]
      rw [← hR]
      exact st_3_91011_3 _ g9 g10 g11 hHeld (n9.far_store (by omega) _ _) (n10.far_store (by omega) _ _) (n11.store _ _) d9_10 d9_11 d10_11
    have st_3_91011_1 : ∀ (W : World) (g9 g10 g11 : Nat), (fun w' => w'.cell? ⟨w.heap.size, 0, none⟩ = some (.int .i64 a0) ∧ w'.cell? ⟨w.heap.size, 1, none⟩ = some (.int .i64 a1) ∧ w'.cell? ⟨w.heap.size + 1, 0, none⟩ = some (.int .i64 b0) ∧ w'.cell? ⟨w.heap.size + 1, 1, none⟩ = some (.int .i64 b1) ∧ w'.cell? ⟨w.heap.size + 1 + 1, 0, none⟩ = some (.int .i64 c0) ∧ w'.cell? ⟨w.heap.size + 1 + 1, 1, none⟩ = some (.int .i64 c1) ∧ Below w.heap.size w w') W → New2 w W g9 j0 j1 → New2 w W g10 0 0 → New2 w W g11 0 0 → ¬ g9 = g10 → ¬ g9 = g11 → ¬ g10 = g11 → R 2 #[true, true, true, true, true, true, true, true, true, true, true, true, true, true, false, false] { tmps := #[Value.agg #[Value.int IntKind.i64 a0, Value.int IntKind.i64 a1], Value.agg #[Value.int IntKind.i64 b0, Value.int IntKind.i64 b1], Value.agg #[Value.int IntKind.i64 c0, Value.int IntKind.i64 c1], Value.int IntKind.i64 v, Value.pointer (some ⟨w.heap.size, 0, none⟩), Value.pointer (some ⟨w.heap.size + 1, 0, none⟩), Value.pointer (some ⟨w.heap.size + 1 + 1, 0, none⟩), undef, Value.bool false, Value.pointer (some ⟨g9, 0, none⟩), Value.pointer (some ⟨g10, 0, none⟩), Value.pointer (some ⟨g11, 0, none⟩), Value.agg #[Value.int IntKind.i64 a0, Value.int IntKind.i64 a1], Value.agg #[Value.int IntKind.i64 b0, Value.int IntKind.i64 b1], Value.agg #[Value.int IntKind.i64 j0, Value.int IntKind.i64 j1], Value.agg #[Value.int IntKind.i64 a0, Value.int IntKind.i64 a1], Value.agg #[Value.int IntKind.i64 b0, Value.int IntKind.i64 b1], Value.agg #[Value.int IntKind.i64 m0, Value.int IntKind.i64 m1], Value.agg #[Value.int IntKind.i64 a0, Value.int IntKind.i64 a1], Value.agg #[Value.int IntKind.i64 b0, Value.int IntKind.i64 b1], Value.agg #[Value.int IntKind.i64 c0, Value.int IntKind.i64 c1], Value.agg #[Value.int IntKind.i64 x0, Value.int IntKind.i64 x1], undef, undef, undef, undef, undef, undef, undef, undef, undef, undef, undef, undef, undef, undef, undef, undef, undef, undef, undef, undef, undef, undef, undef, undef, undef, undef, undef, undef, undef, undef, undef, undef, undef, undef, undef, undef, undef, undef, undef, undef, undef, undef, undef, undef, undef, undef, undef, undef, undef, undef, undef, undef, undef, undef, undef, undef, undef, undef, undef, undef, undef, undef, undef, undef, undef, undef, undef, undef, undef, undef, undef, undef, undef, undef], defers := [] } W := by
      intro W g9 g10 g11 hHeld n9 n10 n11 d9_10 d9_11 d10_11
      have hBW := hHeld.2.2.2.2.2.2
      rw [hR]
      have z9 := n9.far
      have z10 := n10.far
      have z11 := n11.far
      have k0 := n10.c0
      have k1 := n10.c1
      have k2 := n10.f0
      have k3 := n10.f1
      refine wpAnyH_ready (rs := [14]) (by kernel_rfl) (by simp) ?_
      refine AllReadyH.cons (by simp only [List.getElem?_toArray, List.getElem?_cons_zero, List.getElem?_cons_succ]; rfl) (fun K hK => ?_) (AllReadyH.nil)
      go_simp
      go_wp2_with fail
      refine hK.out _ _ ⟨keepS _ _ hHeld.1 (by dsimp only; omega), keepS _ _ hHeld.2.1 (by dsimp only; omega), keepS _ _ hHeld.2.2.1 (by dsimp only; omega), keepS _ _ hHeld.2.2.2.1 (by dsimp only; omega), keepS _ _ hHeld.2.2.2.2.1 (by dsimp only; omega), keepS _ _ hHeld.2.2.2.2.2.1 (by dsimp only; omega), Below.setCell (Below.setCell hHeld.2.2.2.2.2.2 (by dsimp only; omega) _) (by dsimp only; omega) _⟩ (fun hNext => ?_)
      clear hHeld hK K
      have hHeld := hNext
      clear hNext
      try simp only [Act.put, List.setIfInBounds_toArray, List.set_cons_zero, List.set_cons_succ]
      rw [← hR]
      exact st_3_91011_2 _ g9 g10 g11 hHeld (n9.far_store (by omega) _ _) (n10.store _ _) (n11.far_store (by omega) _ _) d9_10 d9_11 d10_11
    have st_3_91011_0 : ∀ (W : World) (g9 g10 g11 : Nat), (fun w' => w'.cell? ⟨w.heap.size, 0, none⟩ = some (.int .i64 a0) ∧ w'.cell? ⟨w.heap.size, 1, none⟩ = some (.int .i64 a1) ∧ w'.cell? ⟨w.heap.size + 1, 0, none⟩ = some (.int .i64 b0) ∧ w'.cell? ⟨w.heap.size + 1, 1, none⟩ = some (.int .i64 b1) ∧ w'.cell? ⟨w.heap.size + 1 + 1, 0, none⟩ = some (.int .i64 c0) ∧ w'.cell? ⟨w.heap.size + 1 + 1, 1, none⟩ = some (.int .i64 c1) ∧ Below w.heap.size w w') W → New2 w W g9 0 0 → New2 w W g10 0 0 → New2 w W g11 0 0 → ¬ g9 = g10 → ¬ g9 = g11 → ¬ g10 = g11 → R 3 #[true, true, true, true, true, true, true, true, true, true, true, true, true, false, false, false] { tmps := #[Value.agg #[Value.int IntKind.i64 a0, Value.int IntKind.i64 a1], Value.agg #[Value.int IntKind.i64 b0, Value.int IntKind.i64 b1], Value.agg #[Value.int IntKind.i64 c0, Value.int IntKind.i64 c1], Value.int IntKind.i64 v, Value.pointer (some ⟨w.heap.size, 0, none⟩), Value.pointer (some ⟨w.heap.size + 1, 0, none⟩), Value.pointer (some ⟨w.heap.size + 1 + 1, 0, none⟩), undef, Value.bool false, Value.pointer (some ⟨g9, 0, none⟩), Value.pointer (some ⟨g10, 0, none⟩), Value.pointer (some ⟨g11, 0, none⟩), Value.agg #[Value.int IntKind.i64 a0, Value.int IntKind.i64 a1], Value.agg #[Value.int IntKind.i64 b0, Value.int IntKind.i64 b1], Value.agg #[Value.int IntKind.i64 j0, Value.int IntKind.i64 j1], Value.agg #[Value.int IntKind.i64 a0, Value.int IntKind.i64 a1], Value.agg #[Value.int IntKind.i64 b0, Value.int IntKind.i64 b1], Value.agg #[Value.int IntKind.i64 m0, Value.int IntKind.i64 m1], Value.agg #[Value.int IntKind.i64 a0, Value.int IntKind.i64 a1], Value.agg #[Value.int IntKind.i64 b0, Value.int IntKind.i64 b1], Value.agg #[Value.int IntKind.i64 c0, Value.int IntKind.i64 c1], Value.agg #[Value.int IntKind.i64 x0, Value.int IntKind.i64 x1], undef, undef, undef, undef, undef, undef, undef, undef, undef, undef, undef, undef, undef, undef, undef, undef, undef, undef, undef, undef, undef, undef, undef, undef, undef, undef, undef, undef, undef, undef, undef, undef, undef, undef, undef, undef, undef, undef, undef, undef, undef, undef, undef, undef, undef, undef, undef, undef, undef, undef, undef, undef, undef, undef, undef, undef, undef, undef, undef, undef, undef, undef, undef, undef, undef, undef, undef, undef, undef, undef, undef, undef, undef, undef], defers := [] } W := by
      intro W g9 g10 g11 hHeld n9 n10 n11 d9_10 d9_11 d10_11
      have hBW := hHeld.2.2.2.2.2.2
      rw [hR]
      have z9 := n9.far
      have z10 := n10.far
      have z11 := n11.far
      have k0 := n9.c0
      have k1 := n9.c1
      have k2 := n9.f0
      have k3 := n9.f1
      refine wpAnyH_ready (rs := [13]) (by kernel_rfl) (by simp) ?_
      refine AllReadyH.cons (by simp only [List.getElem?_toArray, List.getElem?_cons_zero, List.getElem?_cons_succ]; rfl) (fun K hK => ?_) (AllReadyH.nil)
      go_simp
      go_wp2_with fail
      refine hK.out _ _ ⟨keepS _ _ hHeld.1 (by dsimp only; omega), keepS _ _ hHeld.2.1 (by dsimp only; omega), keepS _ _ hHeld.2.2.1 (by dsimp only; omega), keepS _ _ hHeld.2.2.2.1 (by dsimp only; omega), keepS _ _ hHeld.2.2.2.2.1 (by dsimp only; omega), keepS _ _ hHeld.2.2.2.2.2.1 (by dsimp only; omega), Below.setCell (Below.setCell hHeld.2.2.2.2.2.2 (by dsimp only; omega) _) (by dsimp only; omega) _⟩ (fun hNext => ?_)
      clear hHeld hK K
      have hHeld := hNext
      clear hNext
      try simp only [Act.put, List.setIfInBounds_toArray, List.set_cons_zero, List.set_cons_succ]
      rw [← hR]
      exact st_3_91011_1 _ g9 g10 g11 hHeld (n9.store _ _) (n10.far_store (by omega) _ _) (n11.far_store (by omega) _ _) d9_10 d9_11 d10_11
    have st_3_910_0 : ∀ (W : World) (g9 g10 : Nat), (fun w' => w'.cell? ⟨w.heap.size, 0, none⟩ = some (.int .i64 a0) ∧ w'.cell? ⟨w.heap.size, 1, none⟩ = some (.int .i64 a1) ∧ w'.cell? ⟨w.heap.size + 1, 0, none⟩ = some (.int .i64 b0) ∧ w'.cell? ⟨w.heap.size + 1, 1, none⟩ = some (.int .i64 b1) ∧ w'.cell? ⟨w.heap.size + 1 + 1, 0, none⟩ = some (.int .i64 c0) ∧ w'.cell? ⟨w.heap.size + 1 + 1, 1, none⟩ = some (.int .i64 c1) ∧ Below w.heap.size w w') W → New2 w W g9 0 0 → New2 w W g10 0 0 → ¬ g9 = g10 → R 4 #[true, true, true, true, true, true, true, true, true, true, true, true, false, false, false, false] { tmps := #[Value.agg #[Value.int IntKind.i64 a0, Value.int IntKind.i64 a1], Value.agg #[Value.int IntKind.i64 b0, Value.int IntKind.i64 b1], Value.agg #[Value.int IntKind.i64 c0, Value.int IntKind.i64 c1], Value.int IntKind.i64 v, Value.pointer (some ⟨w.heap.size, 0, none⟩), Value.pointer (some ⟨w.heap.size + 1, 0, none⟩), Value.pointer (some ⟨w.heap.size + 1 + 1, 0, none⟩), undef, Value.bool false, Value.pointer (some ⟨g9, 0, none⟩), Value.pointer (some ⟨g10, 0, none⟩), undef, Value.agg #[Value.int IntKind.i64 a0, Value.int IntKind.i64 a1], Value.agg #[Value.int IntKind.i64 b0, Value.int IntKind.i64 b1], Value.agg #[Value.int IntKind.i64 j0, Value.int IntKind.i64 j1], Value.agg #[Value.int IntKind.i64 a0, Value.int IntKind.i64 a1], Value.agg #[Value.int IntKind.i64 b0, Value.int IntKind.i64 b1], Value.agg #[Value.int IntKind.i64 m0, Value.int IntKind.i64 m1], Value.agg #[Value.int IntKind.i64 a0, Value.int IntKind.i64 a1], Value.agg #[Value.int IntKind.i64 b0, Value.int IntKind.i64 b1], Value.agg #[Value.int IntKind.i64 c0, Value.int IntKind.i64 c1], Value.agg #[Value.int IntKind.i64 x0, Value.int IntKind.i64 x1], undef, undef, undef, undef, undef, undef, undef, undef, undef, undef, undef, undef, undef, undef, undef, undef, undef, undef, undef, undef, undef, undef, undef, undef, undef, undef, undef, undef, undef, undef, undef, undef, undef, undef, undef, undef, undef, undef, undef, undef, undef, undef, undef, undef, undef, undef, undef, undef, undef, undef, undef, undef, undef, undef, undef, undef, undef, undef, undef, undef, undef, undef, undef, undef, undef, undef, undef, undef, undef, undef, undef, undef, undef, undef], defers := [] } W := by
      intro W g9 g10 hHeld n9 n10 d9_10
      have hBW := hHeld.2.2.2.2.2.2
      have hbig : w.heap.size + 3 ≤ W.heap.size := by
        have := World.block_lt_of_cell? _ _ hHeld.2.2.2.2.1
        simp at this
        omega
      rw [hR]
      refine wpAnyH_ready (rs := [12]) (by kernel_rfl) (by simp) ?_
      refine AllReadyH.cons (by simp only [List.getElem?_toArray, List.getElem?_cons_zero, List.getElem?_cons_succ]; rfl) (fun K hK => ?_) (AllReadyH.nil)
      go_simp
      go_wp2_with fail
      refine hK.out _ _ ⟨keepN _ hHeld.1, keepN _ hHeld.2.1, keepN _ hHeld.2.2.1, keepN _ hHeld.2.2.2.1, keepN _ hHeld.2.2.2.2.1, keepN _ hHeld.2.2.2.2.2.1, boxed hHeld.2.2.2.2.2.2 _⟩ (fun hNext => ?_)
      clear hHeld hK K
      have hHeld := hNext
      clear hNext
      try simp only [Act.put, List.setIfInBounds_toArray, List.set_cons_zero, List.set_cons_succ]
      rw [← hR]
      exact st_3_91011_0 _ g9 g10 _ hHeld (n9.alloc _) (n10.alloc _) (New2.made (by omega) 0 0) d9_10 (by have := n9.lt; omega) (by have := n10.lt; omega)
    have st_3_911_0 : ∀ (W : World) (g9 g11 : Nat), (fun w' => w'.cell? ⟨w.heap.size, 0, none⟩ = some (.int .i64 a0) ∧ w'.cell? ⟨w.heap.size, 1, none⟩ = some (.int .i64 a1) ∧ w'.cell? ⟨w.heap.size + 1, 0, none⟩ = some (.int .i64 b0) ∧ w'.cell? ⟨w.heap.size + 1, 1, none⟩ = some (.int .i64 b1) ∧ w'.cell? ⟨w.heap.size + 1 + 1, 0, none⟩ = some (.int .i64 c0) ∧ w'.cell? ⟨w.heap.size + 1 + 1, 1, none⟩ = some (.int .i64 c1) ∧ Below w.heap.size w w') W → New2 w W g9 0 0 → New2 w W g11 0 0 → ¬ g9 = g11 → R 4 #[true, true, true, true, true, true, true, true, true, true, true, false, true, false, false, false] { tmps := #[Value.agg #[Value.int IntKind.i64 a0, Value.int IntKind.i64 a1], Value.agg #[Value.int IntKind.i64 b0, Value.int IntKind.i64 b1], Value.agg #[Value.int IntKind.i64 c0, Value.int IntKind.i64 c1], Value.int IntKind.i64 v, Value.pointer (some ⟨w.heap.size, 0, none⟩), Value.pointer (some ⟨w.heap.size + 1, 0, none⟩), Value.pointer (some ⟨w.heap.size + 1 + 1, 0, none⟩), undef, Value.bool false, Value.pointer (some ⟨g9, 0, none⟩), undef, Value.pointer (some ⟨g11, 0, none⟩), Value.agg #[Value.int IntKind.i64 a0, Value.int IntKind.i64 a1], Value.agg #[Value.int IntKind.i64 b0, Value.int IntKind.i64 b1], Value.agg #[Value.int IntKind.i64 j0, Value.int IntKind.i64 j1], Value.agg #[Value.int IntKind.i64 a0, Value.int IntKind.i64 a1], Value.agg #[Value.int IntKind.i64 b0, Value.int IntKind.i64 b1], Value.agg #[Value.int IntKind.i64 m0, Value.int IntKind.i64 m1], Value.agg #[Value.int IntKind.i64 a0, Value.int IntKind.i64 a1], Value.agg #[Value.int IntKind.i64 b0, Value.int IntKind.i64 b1], Value.agg #[Value.int IntKind.i64 c0, Value.int IntKind.i64 c1], Value.agg #[Value.int IntKind.i64 x0, Value.int IntKind.i64 x1], undef, undef, undef, undef, undef, undef, undef, undef, undef, undef, undef, undef, undef, undef, undef, undef, undef, undef, undef, undef, undef, undef, undef, undef, undef, undef, undef, undef, undef, undef, undef, undef, undef, undef, undef, undef, undef, undef, undef, undef, undef, undef, undef, undef, undef, undef, undef, undef, undef, undef, undef, undef, undef, undef, undef, undef, undef, undef, undef, undef, undef, undef, undef, undef, undef, undef, undef, undef, undef, undef, undef, undef, undef, undef], defers := [] } W := by
      intro W g9 g11 hHeld n9 n11 d9_11
      have hBW := hHeld.2.2.2.2.2.2
      have hbig : w.heap.size + 3 ≤ W.heap.size := by
        have := World.block_lt_of_cell? _ _ hHeld.2.2.2.2.1
        simp at this
        omega
      rw [hR]
      refine wpAnyH_ready (rs := [11]) (by kernel_rfl) (by simp) ?_
      refine AllReadyH.cons (by simp only [List.getElem?_toArray, List.getElem?_cons_zero, List.getElem?_cons_succ]; rfl) (fun K hK => ?_) (AllReadyH.nil)
      go_simp
      go_wp2_with fail
      refine hK.out _ _ ⟨keepN _ hHeld.1, keepN _ hHeld.2.1, keepN _ hHeld.2.2.1, keepN _ hHeld.2.2.2.1, keepN _ hHeld.2.2.2.2.1, keepN _ hHeld.2.2.2.2.2.1, boxed hHeld.2.2.2.2.2.2 _⟩ (fun hNext => ?_)
      clear hHeld hK K
      have hHeld := hNext
      clear hNext
      try simp only [Act.put, List.setIfInBounds_toArray, List.set_cons_zero, List.set_cons_succ]
      rw [← hR]
      exact st_3_91011_0 _ g9 _ g11 hHeld (n9.alloc _) (New2.made (by omega) 0 0) (n11.alloc _) (by have := n9.lt; omega) d9_11 (by have := n11.lt; omega)
    have st_3_1011_0 : ∀ (W : World) (g10 g11 : Nat), (fun w' => w'.cell? ⟨w.heap.size, 0, none⟩ = some (.int .i64 a0) ∧ w'.cell? ⟨w.heap.size, 1, none⟩ = some (.int .i64 a1) ∧ w'.cell? ⟨w.heap.size + 1, 0, none⟩ = some (.int .i64 b0) ∧ w'.cell? ⟨w.heap.size + 1, 1, none⟩ = some (.int .i64 b1) ∧ w'.cell? ⟨w.heap.size + 1 + 1, 0, none⟩ = some (.int .i64 c0) ∧ w'.cell? ⟨w.heap.size + 1 + 1, 1, none⟩ = some (.int .i64 c1) ∧ Below w.heap.size w w') W → New2 w W g10 0 0 → New2 w W g11 0 0 → ¬ g10 = g11 → R 4 #[true, true, true, true, true, true, true, true, true, true, false, true, true, false, false, false] { tmps := #[Value.agg #[Value.int IntKind.i64 a0, Value.int IntKind.i64 a1], Value.agg #[Value.int IntKind.i64 b0, Value.int IntKind.i64 b1], Value.agg #[Value.int IntKind.i64 c0, Value.int IntKind.i64 c1], Value.int IntKind.i64 v, Value.pointer (some ⟨w.heap.size, 0, none⟩), Value.pointer (some ⟨w.heap.size + 1, 0, none⟩), Value.pointer (some ⟨w.heap.size + 1 + 1, 0, none⟩), undef, Value.bool false, undef, Value.pointer (some ⟨g10, 0, none⟩), Value.pointer (some ⟨g11, 0, none⟩), Value.agg #[Value.int IntKind.i64 a0, Value.int IntKind.i64 a1], Value.agg #[Value.int IntKind.i64 b0, Value.int IntKind.i64 b1], Value.agg #[Value.int IntKind.i64 j0, Value.int IntKind.i64 j1], Value.agg #[Value.int IntKind.i64 a0, Value.int IntKind.i64 a1], Value.agg #[Value.int IntKind.i64 b0, Value.int IntKind.i64 b1], Value.agg #[Value.int IntKind.i64 m0, Value.int IntKind.i64 m1], Value.agg #[Value.int IntKind.i64 a0, Value.int IntKind.i64 a1], Value.agg #[Value.int IntKind.i64 b0, Value.int IntKind.i64 b1], Value.agg #[Value.int IntKind.i64 c0, Value.int IntKind.i64 c1], Value.agg #[Value.int IntKind.i64 x0, Value.int IntKind.i64 x1], undef, undef, undef, undef, undef, undef, undef, undef, undef, undef, undef, undef, undef, undef, undef, undef, undef, undef, undef, undef, undef, undef, undef, undef, undef, undef, undef, undef, undef, undef, undef, undef, undef, undef, undef, undef, undef, undef, undef, undef, undef, undef, undef, undef, undef, undef, undef, undef, undef, undef, undef, undef, undef, undef, undef, undef, undef, undef, undef, undef, undef, undef, undef, undef, undef, undef, undef, undef, undef, undef, undef, undef, undef, undef], defers := [] } W := by
      intro W g10 g11 hHeld n10 n11 d10_11
      have hBW := hHeld.2.2.2.2.2.2
      have hbig : w.heap.size + 3 ≤ W.heap.size := by
        have := World.block_lt_of_cell? _ _ hHeld.2.2.2.2.1
        simp at this
        omega
      rw [hR]
      refine wpAnyH_ready (rs := [10]) (by kernel_rfl) (by simp) ?_
      refine AllReadyH.cons (by simp only [List.getElem?_toArray, List.getElem?_cons_zero, List.getElem?_cons_succ]; rfl) (fun K hK => ?_) (AllReadyH.nil)
      go_simp
      go_wp2_with fail
      refine hK.out _ _ ⟨keepN _ hHeld.1, keepN _ hHeld.2.1, keepN _ hHeld.2.2.1, keepN _ hHeld.2.2.2.1, keepN _ hHeld.2.2.2.2.1, keepN _ hHeld.2.2.2.2.2.1, boxed hHeld.2.2.2.2.2.2 _⟩ (fun hNext => ?_)
      clear hHeld hK K
      have hHeld := hNext
      clear hNext
      try simp only [Act.put, List.setIfInBounds_toArray, List.set_cons_zero, List.set_cons_succ]
      rw [← hR]
      exact st_3_91011_0 _ _ g10 g11 hHeld (New2.made (by omega) 0 0) (n10.alloc _) (n11.alloc _) (by have := n10.lt; omega) (by have := n11.lt; omega) d10_11
    have st_3_9_0 : ∀ (W : World) (g9 : Nat), (fun w' => w'.cell? ⟨w.heap.size, 0, none⟩ = some (.int .i64 a0) ∧ w'.cell? ⟨w.heap.size, 1, none⟩ = some (.int .i64 a1) ∧ w'.cell? ⟨w.heap.size + 1, 0, none⟩ = some (.int .i64 b0) ∧ w'.cell? ⟨w.heap.size + 1, 1, none⟩ = some (.int .i64 b1) ∧ w'.cell? ⟨w.heap.size + 1 + 1, 0, none⟩ = some (.int .i64 c0) ∧ w'.cell? ⟨w.heap.size + 1 + 1, 1, none⟩ = some (.int .i64 c1) ∧ Below w.heap.size w w') W → New2 w W g9 0 0 → R 5 #[true, true, true, true, true, true, true, true, true, true, true, false, false, false, false, false] { tmps := #[Value.agg #[Value.int IntKind.i64 a0, Value.int IntKind.i64 a1], Value.agg #[Value.int IntKind.i64 b0, Value.int IntKind.i64 b1], Value.agg #[Value.int IntKind.i64 c0, Value.int IntKind.i64 c1], Value.int IntKind.i64 v, Value.pointer (some ⟨w.heap.size, 0, none⟩), Value.pointer (some ⟨w.heap.size + 1, 0, none⟩), Value.pointer (some ⟨w.heap.size + 1 + 1, 0, none⟩), undef, Value.bool false, Value.pointer (some ⟨g9, 0, none⟩), undef, undef, Value.agg #[Value.int IntKind.i64 a0, Value.int IntKind.i64 a1], Value.agg #[Value.int IntKind.i64 b0, Value.int IntKind.i64 b1], Value.agg #[Value.int IntKind.i64 j0, Value.int IntKind.i64 j1], Value.agg #[Value.int IntKind.i64 a0, Value.int IntKind.i64 a1], Value.agg #[Value.int IntKind.i64 b0, Value.int IntKind.i64 b1], Value.agg #[Value.int IntKind.i64 m0, Value.int IntKind.i64 m1], Value.agg #[Value.int IntKind.i64 a0, Value.int IntKind.i64 a1], Value.agg #[Value.int IntKind.i64 b0, Value.int IntKind.i64 b1], Value.agg #[Value.int IntKind.i64 c0, Value.int IntKind.i64 c1], Value.agg #[Value.int IntKind.i64 x0, Value.int IntKind.i64 x1], undef, undef, undef, undef, undef, undef, undef, undef, undef, undef, undef, undef, undef, undef, undef, undef, undef, undef, undef, undef, undef, undef, undef, undef, undef, undef, undef, undef, undef, undef, undef, undef, undef, undef, undef, undef, undef, undef, undef, undef, undef, undef, undef, undef, undef, undef, undef, undef, undef, undef, undef, undef, undef, undef, undef, undef, undef, undef, undef, undef, undef, undef, undef, undef, undef, undef, undef, undef, undef, undef, undef, undef, undef, undef], defers := [] } W := by
      intro W g9 hHeld n9
      have hBW := hHeld.2.2.2.2.2.2
      have hbig : w.heap.size + 3 ≤ W.heap.size := by
        have := World.block_lt_of_cell? _ _ hHeld.2.2.2.2.1
        simp at this
        omega
      rw [hR]
      refine wpAnyH_ready (rs := [11, 12]) (by kernel_rfl) (by simp) ?_
      refine AllReadyH.cons (by simp only [List.getElem?_toArray, List.getElem?_cons_zero, List.getElem?_cons_succ]; rfl) (fun K hK => ?_) (AllReadyH.cons (by simp only [List.getElem?_toArray, List.getElem?_cons_zero, List.getElem?_cons_succ]; rfl) (fun K hK => ?_) (AllReadyH.nil))
      · go_simp
        go_wp2_with fail
        refine hK.out _ _ ⟨keepN _ hHeld.1, keepN _ hHeld.2.1, keepN _ hHeld.2.2.1, keepN _ hHeld.2.2.2.1, keepN _ hHeld.2.2.2.2.1, keepN _ hHeld.2.2.2.2.2.1, boxed hHeld.2.2.2.2.2.2 _⟩ (fun hNext => ?_)
        clear hHeld hK K
        have hHeld := hNext
        clear hNext
        try simp only [Act.put, List.setIfInBounds_toArray, List.set_cons_zero, List.set_cons_succ]
        rw [← hR]
        exact st_3_910_0 _ g9 _ hHeld (n9.alloc _) (New2.made (by omega) 0 0) (by have := n9.lt; omega)
      · go_simp
        go_wp2_with fail
        refine hK.out _ _ ⟨keepN _ hHeld.1, keepN _ hHeld.2.1, keepN _ hHeld.2.2.1, keepN _ hHeld.2.2.2.1, keepN _ hHeld.2.2.2.2.1, keepN _ hHeld.2.2.2.2.2.1, boxed hHeld.2.2.2.2.2.2 _⟩ (fun hNext => ?_)
        clear hHeld hK K
        have hHeld := hNext
        clear hNext
        try simp only [Act.put, List.setIfInBounds_toArray, List.set_cons_zero, List.set_cons_succ]
        rw [← hR]
        exact st_3_911_0 _ g9 _ hHeld (n9.alloc _) (New2.made (by omega) 0 0) (by have := n9.lt; omega)
    have st_3_10_0 : ∀ (W : World) (g10 : Nat), (fun w' => w'.cell? ⟨w.heap.size, 0, none⟩ = some (.int .i64 a0) ∧ w'.cell? ⟨w.heap.size, 1, none⟩ = some (.int .i64 a1) ∧ w'.cell? ⟨w.heap.size + 1, 0, none⟩ = some (.int .i64 b0) ∧ w'.cell? ⟨w.heap.size + 1, 1, none⟩ = some (.int .i64 b1) ∧ w'.cell? ⟨w.heap.size + 1 + 1, 0, none⟩ = some (.int .i64 c0) ∧ w'.cell? ⟨w.heap.size + 1 + 1, 1, none⟩ = some (.int .i64 c1) ∧ Below w.heap.size w w') W → New2 w W g10 0 0 → R 5 #[true, true, true, true, true, true, true, true, true, true, false, true, false, false, false, false] { tmps := #[Value.agg #[Value.int IntKind.i64 a0, Value.int IntKind.i64 a1], Value.agg #[Value.int IntKind.i64 b0, Value.int IntKind.i64 b1], Value.agg #[Value.int IntKind.i64 c0, Value.int IntKind.i64 c1], Value.int IntKind.i64 v, Value.pointer (some ⟨w.heap.size, 0, none⟩), Value.pointer (some ⟨w.heap.size + 1, 0, none⟩), Value.pointer (some ⟨w.heap.size + 1 + 1, 0, none⟩), undef, Value.bool false, undef, Value.pointer (some ⟨g10, 0, none⟩), undef, Value.agg #[Value.int IntKind.i64 a0, Value.int IntKind.i64 a1], Value.agg #[Value.int IntKind.i64 b0, Value.int IntKind.i64 b1], Value.agg #[Value.int IntKind.i64 j0, Value.int IntKind.i64 j1], Value.agg #[Value.int IntKind.i64 a0, Value.int IntKind.i64 a1], Value.agg #[Value.int IntKind.i64 b0, Value.int IntKind.i64 b1], Value.agg #[Value.int IntKind.i64 m0, Value.int IntKind.i64 m1], Value.agg #[Value.int IntKind.i64 a0, Value.int IntKind.i64 a1], Value.agg #[Value.int IntKind.i64 b0, Value.int IntKind.i64 b1], Value.agg #[Value.int IntKind.i64 c0, Value.int IntKind.i64 c1], Value.agg #[Value.int IntKind.i64 x0, Value.int IntKind.i64 x1], undef, undef, undef, undef, undef, undef, undef, undef, undef, undef, undef, undef, undef, undef, undef, undef, undef, undef, undef, undef, undef, undef, undef, undef, undef, undef, undef, undef, undef, undef, undef, undef, undef, undef, undef, undef, undef, undef, undef, undef, undef, undef, undef, undef, undef, undef, undef, undef, undef, undef, undef, undef, undef, undef, undef, undef, undef, undef, undef, undef, undef, undef, undef, undef, undef, undef, undef, undef, undef, undef, undef, undef, undef, undef], defers := [] } W := by
      intro W g10 hHeld n10
      have hBW := hHeld.2.2.2.2.2.2
      have hbig : w.heap.size + 3 ≤ W.heap.size := by
        have := World.block_lt_of_cell? _ _ hHeld.2.2.2.2.1
        simp at this
        omega
      rw [hR]
      refine wpAnyH_ready (rs := [10, 12]) (by kernel_rfl) (by simp) ?_
      refine AllReadyH.cons (by simp only [List.getElem?_toArray, List.getElem?_cons_zero, List.getElem?_cons_succ]; rfl) (fun K hK => ?_) (AllReadyH.cons (by simp only [List.getElem?_toArray, List.getElem?_cons_zero, List.getElem?_cons_succ]; rfl) (fun K hK => ?_) (AllReadyH.nil))
      · go_simp
        go_wp2_with fail
        refine hK.out _ _ ⟨keepN _ hHeld.1, keepN _ hHeld.2.1, keepN _ hHeld.2.2.1, keepN _ hHeld.2.2.2.1, keepN _ hHeld.2.2.2.2.1, keepN _ hHeld.2.2.2.2.2.1, boxed hHeld.2.2.2.2.2.2 _⟩ (fun hNext => ?_)
        clear hHeld hK K
        have hHeld := hNext
        clear hNext
        try simp only [Act.put, List.setIfInBounds_toArray, List.set_cons_zero, List.set_cons_succ]
        rw [← hR]
        exact st_3_910_0 _ _ g10 hHeld (New2.made (by omega) 0 0) (n10.alloc _) (by have := n10.lt; omega)
      · go_simp
        go_wp2_with fail
        refine hK.out _ _ ⟨keepN _ hHeld.1, keepN _ hHeld.2.1, keepN _ hHeld.2.2.1, keepN _ hHeld.2.2.2.1, keepN _ hHeld.2.2.2.2.1, keepN _ hHeld.2.2.2.2.2.1, boxed hHeld.2.2.2.2.2.2 _⟩ (fun hNext => ?_)
        clear hHeld hK K
        have hHeld := hNext
        clear hNext
        try simp only [Act.put, List.setIfInBounds_toArray, List.set_cons_zero, List.set_cons_succ]
        rw [← hR]
        exact st_3_1011_0 _ g10 _ hHeld (n10.alloc _) (New2.made (by omega) 0 0) (by have := n10.lt; omega)
    have st_3_11_0 : ∀ (W : World) (g11 : Nat), (fun w' => w'.cell? ⟨w.heap.size, 0, none⟩ = some (.int .i64 a0) ∧ w'.cell? ⟨w.heap.size, 1, none⟩ = some (.int .i64 a1) ∧ w'.cell? ⟨w.heap.size + 1, 0, none⟩ = some (.int .i64 b0) ∧ w'.cell? ⟨w.heap.size + 1, 1, none⟩ = some (.int .i64 b1) ∧ w'.cell? ⟨w.heap.size + 1 + 1, 0, none⟩ = some (.int .i64 c0) ∧ w'.cell? ⟨w.heap.size + 1 + 1, 1, none⟩ = some (.int .i64 c1) ∧ Below w.heap.size w w') W → New2 w W g11 0 0 → R 5 #[true, true, true, true, true, true, true, true, true, true, false, false, true, false, false, false] { tmps := #[Value.agg #[Value.int IntKind.i64 a0, Value.int IntKind.i64 a1], Value.agg #[Value.int IntKind.i64 b0, Value.int IntKind.i64 b1], Value.agg #[Value.int IntKind.i64 c0, Value.int IntKind.i64 c1], Value.int IntKind.i64 v, Value.pointer (some ⟨w.heap.size, 0, none⟩), Value.pointer (some ⟨w.heap.size + 1, 0, none⟩), Value.pointer (some ⟨w.heap.size + 1 + 1, 0, none⟩), undef, Value.bool false, undef, undef, Value.pointer (some ⟨g11, 0, none⟩), Value.agg #[Value.int IntKind.i64 a0, Value.int IntKind.i64 a1], Value.agg #[Value.int IntKind.i64 b0, Value.int IntKind.i64 b1], Value.agg #[Value.int IntKind.i64 j0, Value.int IntKind.i64 j1], Value.agg #[Value.int IntKind.i64 a0, Value.int IntKind.i64 a1], Value.agg #[Value.int IntKind.i64 b0, Value.int IntKind.i64 b1], Value.agg #[Value.int IntKind.i64 m0, Value.int IntKind.i64 m1], Value.agg #[Value.int IntKind.i64 a0, Value.int IntKind.i64 a1], Value.agg #[Value.int IntKind.i64 b0, Value.int IntKind.i64 b1], Value.agg #[Value.int IntKind.i64 c0, Value.int IntKind.i64 c1], Value.agg #[Value.int IntKind.i64 x0, Value.int IntKind.i64 x1], undef, undef, undef, undef, undef, undef, undef, undef, undef, undef, undef, undef, undef, undef, undef, undef, undef, undef, undef, undef, undef, undef, undef, undef, undef, undef, undef, undef, undef, undef, undef, undef, undef, undef, undef, undef, undef, undef, undef, undef, undef, undef, undef, undef, undef, undef, undef, undef, undef, undef, undef, undef, undef, undef, undef, undef, undef, undef, undef, undef, undef, undef, undef, undef, undef, undef, undef, undef, undef, undef, undef, undef, undef, undef], defers := [] } W := by
      intro W g11 hHeld n11
      have hBW := hHeld.2.2.2.2.2.2
      have hbig : w.heap.size + 3 ≤ W.heap.size := by
        have := World.block_lt_of_cell? _ _ hHeld.2.2.2.2.1
        simp at this
        omega
      rw [hR]
      refine wpAnyH_ready (rs := [10, 11]) (by kernel_rfl) (by simp) ?_
      refine AllReadyH.cons (by simp only [List.getElem?_toArray, List.getElem?_cons_zero, List.getElem?_cons_succ]; rfl) (fun K hK => ?_) (AllReadyH.cons (by simp only [List.getElem?_toArray, List.getElem?_cons_zero, List.getElem?_cons_succ]; rfl) (fun K hK => ?_) (AllReadyH.nil))
      · go_simp
        go_wp2_with fail
        refine hK.out _ _ ⟨keepN _ hHeld.1, keepN _ hHeld.2.1, keepN _ hHeld.2.2.1, keepN _ hHeld.2.2.2.1, keepN _ hHeld.2.2.2.2.1, keepN _ hHeld.2.2.2.2.2.1, boxed hHeld.2.2.2.2.2.2 _⟩ (fun hNext => ?_)
        clear hHeld hK K
        have hHeld := hNext
        clear hNext
        try simp only [Act.put, List.setIfInBounds_toArray, List.set_cons_zero, List.set_cons_succ]
        rw [← hR]
        exact st_3_911_0 _ _ g11 hHeld (New2.made (by omega) 0 0) (n11.alloc _) (by have := n11.lt; omega)
      · go_simp
        go_wp2_with fail
        refine hK.out _ _ ⟨keepN _ hHeld.1, keepN _ hHeld.2.1, keepN _ hHeld.2.2.1, keepN _ hHeld.2.2.2.1, keepN _ hHeld.2.2.2.2.1, keepN _ hHeld.2.2.2.2.2.1, boxed hHeld.2.2.2.2.2.2 _⟩ (fun hNext => ?_)
        clear hHeld hK K
        have hHeld := hNext
        clear hNext
        try simp only [Act.put, List.setIfInBounds_toArray, List.set_cons_zero, List.set_cons_succ]
        rw [← hR]
        exact st_3_1011_0 _ _ g11 hHeld (New2.made (by omega) 0 0) (n11.alloc _) (by have := n11.lt; omega)
    have st_3__0 : ∀ (W : World), (fun w' => w'.cell? ⟨w.heap.size, 0, none⟩ = some (.int .i64 a0) ∧ w'.cell? ⟨w.heap.size, 1, none⟩ = some (.int .i64 a1) ∧ w'.cell? ⟨w.heap.size + 1, 0, none⟩ = some (.int .i64 b0) ∧ w'.cell? ⟨w.heap.size + 1, 1, none⟩ = some (.int .i64 b1) ∧ w'.cell? ⟨w.heap.size + 1 + 1, 0, none⟩ = some (.int .i64 c0) ∧ w'.cell? ⟨w.heap.size + 1 + 1, 1, none⟩ = some (.int .i64 c1) ∧ Below w.heap.size w w') W → R 6 #[true, true, true, true, true, true, true, true, true, true, false, false, false, false, false, false] { tmps := #[Value.agg #[Value.int IntKind.i64 a0, Value.int IntKind.i64 a1], Value.agg #[Value.int IntKind.i64 b0, Value.int IntKind.i64 b1], Value.agg #[Value.int IntKind.i64 c0, Value.int IntKind.i64 c1], Value.int IntKind.i64 v, Value.pointer (some ⟨w.heap.size, 0, none⟩), Value.pointer (some ⟨w.heap.size + 1, 0, none⟩), Value.pointer (some ⟨w.heap.size + 1 + 1, 0, none⟩), undef, Value.bool false, undef, undef, undef, Value.agg #[Value.int IntKind.i64 a0, Value.int IntKind.i64 a1], Value.agg #[Value.int IntKind.i64 b0, Value.int IntKind.i64 b1], Value.agg #[Value.int IntKind.i64 j0, Value.int IntKind.i64 j1], Value.agg #[Value.int IntKind.i64 a0, Value.int IntKind.i64 a1], Value.agg #[Value.int IntKind.i64 b0, Value.int IntKind.i64 b1], Value.agg #[Value.int IntKind.i64 m0, Value.int IntKind.i64 m1], Value.agg #[Value.int IntKind.i64 a0, Value.int IntKind.i64 a1], Value.agg #[Value.int IntKind.i64 b0, Value.int IntKind.i64 b1], Value.agg #[Value.int IntKind.i64 c0, Value.int IntKind.i64 c1], Value.agg #[Value.int IntKind.i64 x0, Value.int IntKind.i64 x1], undef, undef, undef, undef, undef, undef, undef, undef, undef, undef, undef, undef, undef, undef, undef, undef, undef, undef, undef, undef, undef, undef, undef, undef, undef, undef, undef, undef, undef, undef, undef, undef, undef, undef, undef, undef, undef, undef, undef, undef, undef, undef, undef, undef, undef, undef, undef, undef, undef, undef, undef, undef, undef, undef, undef, undef, undef, undef, undef, undef, undef, undef, undef, undef, undef, undef, undef, undef, undef, undef, undef, undef, undef, undef], defers := [] } W := by
      intro W  hHeld 
      have hBW := hHeld.2.2.2.2.2.2
      have hbig : w.heap.size + 3 ≤ W.heap.size := by
        have := World.block_lt_of_cell? _ _ hHeld.2.2.2.2.1
        simp at this
        omega
      rw [hR]
      refine wpAnyH_ready (rs := [10, 11, 12]) (by kernel_rfl) (by simp) ?_
      refine AllReadyH.cons (by simp only [List.getElem?_toArray, List.getElem?_cons_zero, List.getElem?_cons_succ]; rfl) (fun K hK => ?_) (AllReadyH.cons (by simp only [List.getElem?_toArray, List.getElem?_cons_zero, List.getElem?_cons_succ]; rfl) (fun K hK => ?_) (AllReadyH.cons (by simp only [List.getElem?_toArray, List.getElem?_cons_zero, List.getElem?_cons_succ]; rfl) (fun K hK => ?_) (AllReadyH.nil)))
      · go_simp
        go_wp2_with fail
        refine hK.out _ _ ⟨keepN _ hHeld.1, keepN _ hHeld.2.1, keepN _ hHeld.2.2.1, keepN _ hHeld.2.2.2.1, keepN _ hHeld.2.2.2.2.1, keepN _ hHeld.2.2.2.2.2.1, boxed hHeld.2.2.2.2.2.2 _⟩ (fun hNext => ?_)
        clear hHeld hK K
        have hHeld := hNext
        clear hNext
        try simp only [Act.put, List.setIfInBounds_toArray, List.set_cons_zero, List.set_cons_succ]
        rw [← hR]
        exact st_3_9_0 _ _ hHeld (New2.made (by omega) 0 0)
      · go_simp
        go_wp2_with fail
        refine hK.out _ _ ⟨keepN _ hHeld.1, keepN _ hHeld.2.1, keepN _ hHeld.2.2.1, keepN _ hHeld.2.2.2.1, keepN _ hHeld.2.2.2.2.1, keepN _ hHeld.2.2.2.2.2.1, boxed hHeld.2.2.2.2.2.2 _⟩ (fun hNext => ?_)
        clear hHeld hK K
        have hHeld := hNext
        clear hNext
        try simp only [Act.put, List.setIfInBounds_toArray, List.set_cons_zero, List.set_cons_succ]
        rw [← hR]
        exact st_3_10_0 _ _ hHeld (New2.made (by omega) 0 0)
      · go_simp
        go_wp2_with fail
        refine hK.out _ _ ⟨keepN _ hHeld.1, keepN _ hHeld.2.1, keepN _ hHeld.2.2.1, keepN _ hHeld.2.2.2.1, keepN _ hHeld.2.2.2.2.1, keepN _ hHeld.2.2.2.2.2.1, boxed hHeld.2.2.2.2.2.2 _⟩ (fun hNext => ?_)
        clear hHeld hK K
        have hHeld := hNext
        clear hNext
        try simp only [Act.put, List.setIfInBounds_toArray, List.set_cons_zero, List.set_cons_succ]
        rw [← hR]
        exact st_3_11_0 _ _ hHeld (New2.made (by omega) 0 0)
    have st_2_91011_0 : ∀ (W : World) (g9 g10 g11 : Nat), (fun w' => w'.cell? ⟨w.heap.size, 0, none⟩ = some (.int .i64 a0) ∧ w'.cell? ⟨w.heap.size, 1, none⟩ = some (.int .i64 a1) ∧ w'.cell? ⟨w.heap.size + 1, 0, none⟩ = some (.int .i64 b0) ∧ w'.cell? ⟨w.heap.size + 1, 1, none⟩ = some (.int .i64 b1) ∧ w'.cell? ⟨w.heap.size + 1 + 1, 0, none⟩ = some (.int .i64 c0) ∧ w'.cell? ⟨w.heap.size + 1 + 1, 1, none⟩ = some (.int .i64 c1) ∧ Below w.heap.size w w') W → New2 w W g9 0 0 → New2 w W g10 0 0 → New2 w W g11 0 0 → ¬ g9 = g10 → ¬ g9 = g11 → ¬ g10 = g11 → R 4 #[true, true, true, true, true, true, true, true, true, false, true, true, true, false, false, false] { tmps := #[Value.agg #[Value.int IntKind.i64 a0, Value.int IntKind.i64 a1], Value.agg #[Value.int IntKind.i64 b0, Value.int IntKind.i64 b1], Value.agg #[Value.int IntKind.i64 c0, Value.int IntKind.i64 c1], Value.int IntKind.i64 v, Value.pointer (some ⟨w.heap.size, 0, none⟩), Value.pointer (some ⟨w.heap.size + 1, 0, none⟩), Value.pointer (some ⟨w.heap.size + 1 + 1, 0, none⟩), undef, Value.bool false, Value.pointer (some ⟨g9, 0, none⟩), Value.pointer (some ⟨g10, 0, none⟩), Value.pointer (some ⟨g11, 0, none⟩), Value.agg #[Value.int IntKind.i64 a0, Value.int IntKind.i64 a1], Value.agg #[Value.int IntKind.i64 b0, Value.int IntKind.i64 b1], Value.agg #[Value.int IntKind.i64 j0, Value.int IntKind.i64 j1], Value.agg #[Value.int IntKind.i64 a0, Value.int IntKind.i64 a1], Value.agg #[Value.int IntKind.i64 b0, Value.int IntKind.i64 b1], Value.agg #[Value.int IntKind.i64 m0, Value.int IntKind.i64 m1], Value.agg #[Value.int IntKind.i64 a0, Value.int IntKind.i64 a1], Value.agg #[Value.int IntKind.i64 b0, Value.int IntKind.i64 b1], Value.agg #[Value.int IntKind.i64 c0, Value.int IntKind.i64 c1], undef, undef, undef, undef, undef, undef, undef, undef, undef, undef, undef, undef, undef, undef, undef, undef, undef, undef, undef, undef, undef, undef, undef, undef, undef, undef, undef, undef, undef, undef, undef, undef, undef, undef, undef, undef, undef, undef, undef, undef, undef, undef, undef, undef, undef, undef, undef, undef, undef, undef, undef, undef, undef, undef, undef, undef, undef, undef, undef, undef, undef, undef, undef, undef, undef, undef, undef, undef, undef, undef, undef, undef, undef, undef, undef], defers := [] } W := by
      intro W g9 g10 g11 hHeld n9 n10 n11 d9_10 d9_11 d10_11
      have hBW := hHeld.2.2.2.2.2.2
      have hbig : w.heap.size + 3 ≤ W.heap.size := by
        have := World.block_lt_of_cell? _ _ hHeld.2.2.2.2.1
        simp at this
        omega
      rw [hR]
      refine wpAnyH_ready (rs := [9]) (by kernel_rfl) (by simp) ?_
      refine AllReadyH.cons (by simp only [List.getElem?_toArray, List.getElem?_cons_zero, List.getElem?_cons_succ]; rfl) (fun K hK => ?_) (AllReadyH.nil)
      go_simp
      refine (widen_any _ _ _ _ _ _ _ (HL.out.after hBW)).mono ?_; rw [HX.out]; rintro e w1 ⟨rfl, hb⟩
      go_wp2_with fail
      refine hK.out _ _ ⟨keepC hb hHeld.1, keepC hb hHeld.2.1, keepC hb hHeld.2.2.1, keepC hb hHeld.2.2.2.1, keepC hb hHeld.2.2.2.2.1, keepC hb hHeld.2.2.2.2.2.1, after hHeld.2.2.2.2.2.2 hb⟩ (fun hNext => ?_)
      clear hHeld hK K
      have hHeld := hNext
      clear hNext
      try simp only [Act.put, List.setIfInBounds_toArray, List.set_cons_zero, List.set_cons_succ]
      rw [← hR]
      exact st_3_91011_0 _ g9 g10 g11 hHeld (n9.below hb) (n10.below hb) (n11.below hb) d9_10 d9_11 d10_11
    have st_2_910_0 : ∀ (W : World) (g9 g10 : Nat), (fun w' => w'.cell? ⟨w.heap.size, 0, none⟩ = some (.int .i64 a0) ∧ w'.cell? ⟨w.heap.size, 1, none⟩ = some (.int .i64 a1) ∧ w'.cell? ⟨w.heap.size + 1, 0, none⟩ = some (.int .i64 b0) ∧ w'.cell? ⟨w.heap.size + 1, 1, none⟩ = some (.int .i64 b1) ∧ w'.cell? ⟨w.heap.size + 1 + 1, 0, none⟩ = some (.int .i64 c0) ∧ w'.cell? ⟨w.heap.size + 1 + 1, 1, none⟩ = some (.int .i64 c1) ∧ Below w.heap.size w w') W → New2 w W g9 0 0 → New2 w W g10 0 0 → ¬ g9 = g10 → R 5 #[true, true, true, true, true, true, true, true, true, false, true, true, false, false, false, false] { tmps := #[Value.agg #[Value.int IntKind.i64 a0, Value.int IntKind.i64 a1], Value.agg #[Value.int IntKind.i64 b0, Value.int IntKind.i64 b1], Value.agg #[Value.int IntKind.i64 c0, Value.int IntKind.i64 c1], Value.int IntKind.i64 v, Value.pointer (some ⟨w.heap.size, 0, none⟩), Value.pointer (some ⟨w.heap.size + 1, 0, none⟩), Value.pointer (some ⟨w.heap.size + 1 + 1, 0, none⟩), undef, Value.bool false, Value.pointer (some ⟨g9, 0, none⟩), Value.pointer (some ⟨g10, 0, none⟩), undef, Value.agg #[Value.int IntKind.i64 a0, Value.int IntKind.i64 a1], Value.agg #[Value.int IntKind.i64 b0, Value.int IntKind.i64 b1], Value.agg #[Value.int IntKind.i64 j0, Value.int IntKind.i64 j1], Value.agg #[Value.int IntKind.i64 a0, Value.int IntKind.i64 a1], Value.agg #[Value.int IntKind.i64 b0, Value.int IntKind.i64 b1], Value.agg #[Value.int IntKind.i64 m0, Value.int IntKind.i64 m1], Value.agg #[Value.int IntKind.i64 a0, Value.int IntKind.i64 a1], Value.agg #[Value.int IntKind.i64 b0, Value.int IntKind.i64 b1], Value.agg #[Value.int IntKind.i64 c0, Value.int IntKind.i64 c1], undef, undef, undef, undef, undef, undef, undef, undef, undef, undef, undef, undef, undef, undef, undef, undef, undef, undef, undef, undef, undef, undef, undef, undef, undef, undef, undef, undef, undef, undef, undef, undef, undef, undef, undef, undef, undef, undef, undef, undef, undef, undef, undef, undef, undef, undef, undef, undef, undef, undef, undef, undef, undef, undef, undef, undef, undef, undef, undef, undef, undef, undef, undef, undef, undef, undef, undef, undef, undef, undef, undef, undef, undef, undef, undef], defers := [] } W := by
      intro W g9 g10 hHeld n9 n10 d9_10
      have hBW := hHeld.2.2.2.2.2.2
      have hbig : w.heap.size + 3 ≤ W.heap.size := by
        have := World.block_lt_of_cell? _ _ hHeld.2.2.2.2.1
        simp at this
        omega
      rw [hR]
      refine wpAnyH_ready (rs := [9, 12]) (by kernel_rfl) (by simp) ?_
      refine AllReadyH.cons (by simp only [List.getElem?_toArray, List.getElem?_cons_zero, List.getElem?_cons_succ]; rfl) (fun K hK => ?_) (AllReadyH.cons (by simp only [List.getElem?_toArray, List.getElem?_cons_zero, List.getElem?_cons_succ]; rfl) (fun K hK => ?_) (AllReadyH.nil))
      · go_simp
        refine (widen_any _ _ _ _ _ _ _ (HL.out.after hBW)).mono ?_; rw [HX.out]; rintro e w1 ⟨rfl, hb⟩
        go_wp2_with fail
        refine hK.out _ _ ⟨keepC hb hHeld.1, keepC hb hHeld.2.1, keepC hb hHeld.2.2.1, keepC hb hHeld.2.2.2.1, keepC hb hHeld.2.2.2.2.1, keepC hb hHeld.2.2.2.2.2.1, after hHeld.2.2.2.2.2.2 hb⟩ (fun hNext => ?_)
        clear hHeld hK K
        have hHeld := hNext
        clear hNext
        try simp only [Act.put, List.setIfInBounds_toArray, List.set_cons_zero, List.set_cons_succ]
        rw [← hR]
        exact st_3_910_0 _ g9 g10 hHeld (n9.below hb) (n10.below hb) d9_10
      · go_simp
        go_wp2_with fail
        refine hK.out _ _ ⟨keepN _ hHeld.1, keepN _ hHeld.2.1, keepN _ hHeld.2.2.1, keepN _ hHeld.2.2.2.1, keepN _ hHeld.2.2.2.2.1, keepN _ hHeld.2.2.2.2.2.1, boxed hHeld.2.2.2.2.2.2 _⟩ (fun hNext => ?_)
        clear hHeld hK K
        have hHeld := hNext
        clear hNext
        try simp only [Act.put, List.setIfInBounds_toArray, List.set_cons_zero, List.set_cons_succ]
        rw [← hR]
        exact st_2_91011_0 _ g9 g10 _ hHeld (n9.alloc _) (n10.alloc _) (New2.made (by omega) 0 0) d9_10 (by have := n9.lt; omega) (by have := n10.lt; omega)
    have st_2_911_0 : ∀ (W : World) (g9 g11 : Nat), (fun w' => w'.cell? ⟨w.heap.size, 0, none⟩ = some (.int .i64 a0) ∧ w'.cell? ⟨w.heap.size, 1, none⟩ = some (.int .i64 a1) ∧ w'.cell? ⟨w.heap.size + 1, 0, none⟩ = some (.int .i64 b0) ∧ w'.cell? ⟨w.heap.size + 1, 1, none⟩ = some (.int .i64 b1) ∧ w'.cell? ⟨w.heap.size + 1 + 1, 0, none⟩ = some (.int .i64 c0) ∧ w'.cell? ⟨w.heap.size + 1 + 1, 1, none⟩ = some (.int .i64 c1) ∧ Below w.heap.size w w') W → New2 w W g9 0 0 → New2 w W g11 0 0 → ¬ g9 = g11 → R 5 #[true, true, true, true, true, true, true, true, true, false, true, false, true, false, false, false] { tmps := #[Value.agg #[Value.int IntKind.i64 a0, Value.int IntKind.i64 a1], Value.agg #[Value.int IntKind.i64 b0, Value.int IntKind.i64 b1], Value.agg #[Value.int IntKind.i64 c0, Value.int IntKind.i64 c1], Value.int IntKind.i64 v, Value.pointer (some ⟨w.heap.size, 0, none⟩), Value.pointer (some ⟨w.heap.size + 1, 0, none⟩), Value.pointer (some ⟨w.heap.size + 1 + 1, 0, none⟩), undef, Value.bool false, Value.pointer (some ⟨g9, 0, none⟩), undef, Value.pointer (some ⟨g11, 0, none⟩), Value.agg #[Value.int IntKind.i64 a0, Value.int IntKind.i64 a1], Value.agg #[Value.int IntKind.i64 b0, Value.int IntKind.i64 b1], Value.agg #[Value.int IntKind.i64 j0, Value.int IntKind.i64 j1], Value.agg #[Value.int IntKind.i64 a0, Value.int IntKind.i64 a1], Value.agg #[Value.int IntKind.i64 b0, Value.int IntKind.i64 b1], Value.agg #[Value.int IntKind.i64 m0, Value.int IntKind.i64 m1], Value.agg #[Value.int IntKind.i64 a0, Value.int IntKind.i64 a1], Value.agg #[Value.int IntKind.i64 b0, Value.int IntKind.i64 b1], Value.agg #[Value.int IntKind.i64 c0, Value.int IntKind.i64 c1], undef, undef, undef, undef, undef, undef, undef, undef, undef, undef, undef, undef, undef, undef, undef, undef, undef, undef, undef, undef, undef, undef, undef, undef, undef, undef, undef, undef, undef, undef, undef, undef, undef, undef, undef, undef, undef, undef, undef, undef, undef, undef, undef, undef, undef, undef, undef, undef, undef, undef, undef, undef, undef, undef, undef, undef, undef, undef, undef, undef, undef, undef, undef, undef, undef, undef, undef, undef, undef, undef, undef, undef, undef, undef, undef], defers := [] } W := by
      intro W g9 g11 hHeld n9 n11 d9_11
      have hBW := hHeld.2.2.2.2.2.2
      have hbig : w.heap.size + 3 ≤ W.heap.size := by
        have := World.block_lt_of_cell? _ _ hHeld.2.2.2.2.1
        simp at this
        omega
      rw [hR]
      refine wpAnyH_ready (rs := [9, 11]) (by kernel_rfl) (by simp) ?_
      refine AllReadyH.cons (by simp only [List.getElem?_toArray, List.getElem?_cons_zero, List.getElem?_cons_succ]; rfl) (fun K hK => ?_) (AllReadyH.cons (by simp only [List.getElem?_toArray, List.getElem?_cons_zero, List.getElem?_cons_succ]; rfl) (fun K hK => ?_) (AllReadyH.nil))
      · go_simp
        refine (widen_any _ _ _ _ _ _ _ (HL.out.after hBW)).mono ?_; rw [HX.out]; rintro e w1 ⟨rfl, hb⟩
        go_wp2_with fail
        refine hK.out _ _ ⟨keepC hb hHeld.1, keepC hb hHeld.2.1, keepC hb hHeld.2.2.1, keepC hb hHeld.2.2.2.1, keepC hb hHeld.2.2.2.2.1, keepC hb hHeld.2.2.2.2.2.1, after hHeld.2.2.2.2.2.2 hb⟩ (fun hNext => ?_)
        clear hHeld hK K
        have hHeld := hNext
        clear hNext
        try simp only [Act.put, List.setIfInBounds_toArray, List.set_cons_zero, List.set_cons_succ]
        rw [← hR]
        exact st_3_911_0 _ g9 g11 hHeld (n9.below hb) (n11.below hb) d9_11
      · go_simp
        go_wp2_with fail
        refine hK.out _ _ ⟨keepN _ hHeld.1, keepN _ hHeld.2.1, keepN _ hHeld.2.2.1, keepN _ hHeld.2.2.2.1, keepN _ hHeld.2.2.2.2.1, keepN _ hHeld.2.2.2.2.2.1, boxed hHeld.2.2.2.2.2.2 _⟩ (fun hNext => ?_)
        clear hHeld hK K
        have hHeld := hNext
        clear hNext
        try simp only [Act.put, List.setIfInBounds_toArray, List.set_cons_zero, List.set_cons_succ]
        rw [← hR]
        exact st_2_91011_0 _ g9 _ g11 hHeld (n9.alloc _) (New2.made (by omega) 0 0) (n11.alloc _) (by have := n9.lt; omega) d9_11 (by have := n11.lt; omega)
    have st_2_1011_0 : ∀ (W : World) (g10 g11 : Nat), (fun w' => w'.cell? ⟨w.heap.size, 0, none⟩ = some (.int .i64 a0) ∧ w'.cell? ⟨w.heap.size, 1, none⟩ = some (.int .i64 a1) ∧ w'.cell? ⟨w.heap.size + 1, 0, none⟩ = some (.int .i64 b0) ∧ w'.cell? ⟨w.heap.size + 1, 1, none⟩ = some (.int .i64 b1) ∧ w'.cell? ⟨w.heap.size + 1 + 1, 0, none⟩ = some (.int .i64 c0) ∧ w'.cell? ⟨w.heap.size + 1 + 1, 1, none⟩ = some (.int .i64 c1) ∧ Below w.heap.size w w') W → New2 w W g10 0 0 → New2 w W g11 0 0 → ¬ g10 = g11 → R 5 #[true, true, true, true, true, true, true, true, true, false, false, true, true, false, false, false] { tmps := #[Value.agg #[Value.int IntKind.i64 a0, Value.int IntKind.i64 a1], Value.agg #[Value.int IntKind.i64 b0, Value.int IntKind.i64 b1], Value.agg #[Value.int IntKind.i64 c0, Value.int IntKind.i64 c1], Value.int IntKind.i64 v, Value.pointer (some ⟨w.heap.size, 0, none⟩), Value.pointer (some ⟨w.heap.size + 1, 0, none⟩), Value.pointer (some ⟨w.heap.size + 1 + 1, 0, none⟩), undef, Value.bool false, undef, Value.pointer (some ⟨g10, 0, none⟩), Value.pointer (some ⟨g11, 0, none⟩), Value.agg #[Value.int IntKind.i64 a0, Value.int IntKind.i64 a1], Value.agg #[Value.int IntKind.i64 b0, Value.int IntKind.i64 b1], Value.agg #[Value.int IntKind.i64 j0, Value.int IntKind.i64 j1], Value.agg #[Value.int IntKind.i64 a0, Value.int IntKind.i64 a1], Value.agg #[Value.int IntKind.i64 b0, Value.int IntKind.i64 b1], Value.agg #[Value.int IntKind.i64 m0, Value.int IntKind.i64 m1], Value.agg #[Value.int IntKind.i64 a0, Value.int IntKind.i64 a1], Value.agg #[Value.int IntKind.i64 b0, Value.int IntKind.i64 b1], Value.agg #[Value.int IntKind.i64 c0, Value.int IntKind.i64 c1], undef, undef, undef, undef, undef, undef, undef, undef, undef, undef, undef, undef, undef, undef, undef, undef, undef, undef, undef, undef, undef, undef, undef, undef, undef, undef, undef, undef, undef, undef, undef, undef, undef, undef, undef, undef, undef, undef, undef, undef, undef, undef, undef, undef, undef, undef, undef, undef, undef, undef, undef, undef, undef, undef, undef, undef, undef, undef, undef, undef, undef, undef, undef, undef, undef, undef, undef, undef, undef, undef, undef, undef, undef, undef, undef], defers := [] } W := by
      intro W g10 g11 hHeld n10 n11 d10_11
      have hBW := hHeld.2.2.2.2.2.2
      have hbig : w.heap.size + 3 ≤ W.heap.size := by
        have := World.block_lt_of_cell? _ _ hHeld.2.2.2.2.1
        simp at this
        omega
      rw [hR]
      refine wpAnyH_ready (rs := [9, 10]) (by kernel_rfl) (by simp) ?_
      refine AllReadyH.cons (by simp only [List.getElem?_toArray, List.getElem?_cons_zero, List.getElem?_cons_succ]; rfl) (fun K hK => ?_) (AllReadyH.cons (by simp only [List.getElem?_toArray, List.getElem?_cons_zero, List.getElem?_cons_succ]; rfl) (fun K hK => ?_) (AllReadyH.nil))
      · go_simp
        refine (widen_any _ _ _ _ _ _ _ (HL.out.after hBW)).mono ?_; rw [HX.out]; rintro e w1 ⟨rfl, hb⟩
        go_wp2_with fail
        refine hK.out _ _ ⟨keepC hb hHeld.1, keepC hb hHeld.2.1, keepC hb hHeld.2.2.1, keepC hb hHeld.2.2.2.1, keepC hb hHeld.2.2.2.2.1, keepC hb hHeld.2.2.2.2.2.1, after hHeld.2.2.2.2.2.2 hb⟩ (fun hNext => ?_)
        clear hHeld hK K
        have hHeld := hNext
        clear hNext
        try simp only [Act.put, List.setIfInBounds_toArray, List.set_cons_zero, List.set_cons_succ]
        rw [← hR]
        exact st_3_1011_0 _ g10 g11 hHeld (n10.below hb) (n11.below hb) d10_11
      · go_simp
        go_wp2_with fail
        refine hK.out _ _ ⟨keepN _ hHeld.1, keepN _ hHeld.2.1, keepN _ hHeld.2.2.1, keepN _ hHeld.2.2.2.1, keepN _ hHeld.2.2.2.2.1, keepN _ hHeld.2.2.2.2.2.1, boxed hHeld.2.2.2.2.2.2 _⟩ (fun hNext => ?_)
        clear hHeld hK K
        have hHeld := hNext
        clear hNext
        try simp only [Act.put, List.setIfInBounds_toArray, List.set_cons_zero, List.set_cons_succ]
        rw [← hR]
        exact st_2_91011_0 _ _ g10 g11 hHeld (New2.made (by omega) 0 0) (n10.alloc _) (n11.alloc _) (by have := n10.lt; omega) (by have := n11.lt; omega) d10_11
    have st_2_9_0 : ∀ (W : World) (g9 : Nat), (fun w' => w'.cell? ⟨w.heap.size, 0, none⟩ = some (.int .i64 a0) ∧ w'.cell? ⟨w.heap.size, 1, none⟩ = some (.int .i64 a1) ∧ w'.cell? ⟨w.heap.size + 1, 0, none⟩ = some (.int .i64 b0) ∧ w'.cell? ⟨w.heap.size + 1, 1, none⟩ = some (.int .i64 b1) ∧ w'.cell? ⟨w.heap.size + 1 + 1, 0, none⟩ = some (.int .i64 c0) ∧ w'.cell? ⟨w.heap.size + 1 + 1, 1, none⟩ = some (.int .i64 c1) ∧ Below w.heap.size w w') W → New2 w W g9 0 0 → R 6 #[true, true, true, true, true, true, true, true, true, false, true, false, false, false, false, false] { tmps := #[Value.agg #[Value.int IntKind.i64 a0, Value.int IntKind.i64 a1], Value.agg #[Value.int IntKind.i64 b0, Value.int IntKind.i64 b1], Value.agg #[Value.int IntKind.i64 c0, Value.int IntKind.i64 c1], Value.int IntKind.i64 v, Value.pointer (some ⟨w.heap.size, 0, none⟩), Value.pointer (some ⟨w.heap.size + 1, 0, none⟩), Value.pointer (some ⟨w.heap.size + 1 + 1, 0, none⟩), undef, Value.bool false, Value.pointer (some ⟨g9, 0, none⟩), undef, undef, Value.agg #[Value.int IntKind.i64 a0, Value.int IntKind.i64 a1], Value.agg #[Value.int IntKind.i64 b0, Value.int IntKind.i64 b1], Value.agg #[Value.int IntKind.i64 j0, Value.int IntKind.i64 j1], Value.agg #[Value.int IntKind.i64 a0, Value.int IntKind.i64 a1], Value.agg #[Value.int IntKind.i64 b0, Value.int IntKind.i64 b1], Value.agg #[Value.int IntKind.i64 m0, Value.int IntKind.i64 m1], Value.agg #[Value.int IntKind.i64 a0, Value.int IntKind.i64 a1], Value.agg #[Value.int IntKind.i64 b0, Value.int IntKind.i64 b1], Value.agg #[Value.int IntKind.i64 c0, Value.int IntKind.i64 c1], undef, undef, undef, undef, undef, undef, undef, undef, undef, undef, undef, undef, undef, undef, undef, undef, undef, undef, undef, undef, undef, undef, undef, undef, undef, undef, undef, undef, undef, undef, undef, undef, undef, undef, undef, undef, undef, undef, undef, undef, undef, undef, undef, undef, undef, undef, undef, undef, undef, undef, undef, undef, undef, undef, undef, undef, undef, undef, undef, undef, undef, undef, undef, undef, undef, undef, undef, undef, undef, undef, undef, undef, undef, undef, undef], defers := [] } W := by
      intro W g9 hHeld n9
      have hBW := hHeld.2.2.2.2.2.2
      have hbig : w.heap.size + 3 ≤ W.heap.size := by
        have := World.block_lt_of_cell? _ _ hHeld.2.2.2.2.1
        simp at this
        omega
      rw [hR]
      refine wpAnyH_ready (rs := [9, 11, 12]) (by kernel_rfl) (by simp) ?_
      refine AllReadyH.cons (by simp only [List.getElem?_toArray, List.getElem?_cons_zero, List.getElem?_cons_succ]; rfl) (fun K hK => ?_) (AllReadyH.cons (by simp only [List.getElem?_toArray, List.getElem?_cons_zero, List.getElem?_cons_succ]; rfl) (fun K hK => ?_) (AllReadyH.cons (by simp only [List.getElem?_toArray, List.getElem?_cons_zero, List.getElem?_cons_succ]; rfl) (fun K hK => ?_) (AllReadyH.nil)))
      · go_simp
        refine (widen_any _ _ _ _ _ _ _ (HL.out.after hBW)).mono ?_; rw [HX.out]; rintro e w1 ⟨rfl, hb⟩
        go_wp2_with fail
        refine hK.out _ _ ⟨keepC hb hHeld.1, keepC hb hHeld.2.1, keepC hb hHeld.2.2.1, keepC hb hHeld.2.2.2.1, keepC hb hHeld.2.2.2.2.1, keepC hb hHeld.2.2.2.2.2.1, after hHeld.2.2.2.2.2.2 hb⟩ (fun hNext => ?_)
        clear hHeld hK K
        have hHeld := hNext
        clear hNext
        try simp only [Act.put, List.setIfInBounds_toArray, List.set_cons_zero, List.set_cons_succ]
        rw [← hR]
        exact st_3_9_0 _ g9 hHeld (n9.below hb)
      · go_simp
        go_wp2_with fail
        refine hK.out _ _ ⟨keepN _ hHeld.1, keepN _ hHeld.2.1, keepN _ hHeld.2.2.1, keepN _ hHeld.2.2.2.1, keepN _ hHeld.2.2.2.2.1, keepN _ hHeld.2.2.2.2.2.1, boxed hHeld.2.2.2.2.2.2 _⟩ (fun hNext => ?_)
        clear hHeld hK K
        have hHeld := hNext
        clear hNext
        try simp only [Act.put, List.setIfInBounds_toArray, List.set_cons_zero, List.set_cons_succ]
        rw [← hR]
        exact st_2_910_0 _ g9 _ hHeld (n9.alloc _) (New2.made (by omega) 0 0) (by have := n9.lt; omega)
      · go_simp
        go_wp2_with fail
        refine hK.out _ _ ⟨keepN _ hHeld.1, keepN _ hHeld.2.1, keepN _ hHeld.2.2.1, keepN _ hHeld.2.2.2.1, keepN _ hHeld.2.2.2.2.1, keepN _ hHeld.2.2.2.2.2.1, boxed hHeld.2.2.2.2.2.2 _⟩ (fun hNext => ?_)
        clear hHeld hK K
        have hHeld := hNext
        clear hNext
        try simp only [Act.put, List.setIfInBounds_toArray, List.set_cons_zero, List.set_cons_succ]
        rw [← hR]
        exact st_2_911_0 _ g9 _ hHeld (n9.alloc _) (New2.made (by omega) 0 0) (by have := n9.lt; omega)
    have st_2_10_0 : ∀ (W : World) (g10 : Nat), (fun w' => w'.cell? ⟨w.heap.size, 0, none⟩ = some (.int .i64 a0) ∧ w'.cell? ⟨w.heap.size, 1, none⟩ = some (.int .i64 a1) ∧ w'.cell? ⟨w.heap.size + 1, 0, none⟩ = some (.int .i64 b0) ∧ w'.cell? ⟨w.heap.size + 1, 1, none⟩ = some (.int .i64 b1) ∧ w'.cell? ⟨w.heap.size + 1 + 1, 0, none⟩ = some (.int .i64 c0) ∧ w'.cell? ⟨w.heap.size + 1 + 1, 1, none⟩ = some (.int .i64 c1) ∧ Below w.heap.size w w') W → New2 w W g10 0 0 → R 6 #[true, true, true, true, true, true, true, true, true, false, false, true, false, false, false, false] { tmps := #[Value.agg #[Value.int IntKind.i64 a0, Value.int IntKind.i64 a1], Value.agg #[Value.int IntKind.i64 b0, Value.int IntKind.i64 b1], Value.agg #[Value.int IntKind.i64 c0, Value.int IntKind.i64 c1], Value.int IntKind.i64 v, Value.pointer (some ⟨w.heap.size, 0, none⟩), Value.pointer (some ⟨w.heap.size + 1, 0, none⟩), Value.pointer (some ⟨w.heap.size + 1 + 1, 0, none⟩), undef, Value.bool false, undef, Value.pointer (some ⟨g10, 0, none⟩), undef, Value.agg #[Value.int IntKind.i64 a0, Value.int IntKind.i64 a1], Value.agg #[Value.int IntKind.i64 b0, Value.int IntKind.i64 b1], Value.agg #[Value.int IntKind.i64 j0, Value.int IntKind.i64 j1], Value.agg #[Value.int IntKind.i64 a0, Value.int IntKind.i64 a1], Value.agg #[Value.int IntKind.i64 b0, Value.int IntKind.i64 b1], Value.agg #[Value.int IntKind.i64 m0, Value.int IntKind.i64 m1], Value.agg #[Value.int IntKind.i64 a0, Value.int IntKind.i64 a1], Value.agg #[Value.int IntKind.i64 b0, Value.int IntKind.i64 b1], Value.agg #[Value.int IntKind.i64 c0, Value.int IntKind.i64 c1], undef, undef, undef, undef, undef, undef, undef, undef, undef, undef, undef, undef, undef, undef, undef, undef, undef, undef, undef, undef, undef, undef, undef, undef, undef, undef, undef, undef, undef, undef, undef, undef, undef, undef, undef, undef, undef, undef, undef, undef, undef, undef, undef, undef, undef, undef, undef, undef, undef, undef, undef, undef, undef, undef, undef, undef, undef, undef, undef, undef, undef, undef, undef, undef, undef, undef, undef, undef, undef, undef, undef, undef, undef, undef, undef], defers := [] } W := by
      intro W g10 hHeld n10
      have hBW := hHeld.2.2.2.2.2.2
      have hbig : w.heap.size + 3 ≤ W.heap.size := by
        have := World.block_lt_of_cell? _ _ hHeld.2.2.2.2.1
        simp at this
        omega
      rw [hR]
      refine wpAnyH_ready (rs := [9, 10, 12]) (by kernel_rfl) (by simp) ?_
      refine AllReadyH.cons (by simp only [List.getElem?_toArray, List.getElem?_cons_zero, List.getElem?_cons_succ]; rfl) (fun K hK => ?_) (AllReadyH.cons (by simp only [List.getElem?_toArray, List.getElem?_cons_zero, List.getElem?_cons_succ]; rfl) (fun K hK => ?_) (AllReadyH.cons (by simp only [List.getElem?_toArray, List.getElem?_cons_zero, List.getElem?_cons_succ]; rfl) (fun K hK => ?_) (AllReadyH.nil)))
      · go_simp
        refine (widen_any _ _ _ _ _ _ _ (HL.out.after hBW)).mono ?_; rw [HX.out]; rintro e w1 ⟨rfl, hb⟩
        go_wp2_with fail
        refine hK.out _ _ ⟨keepC hb hHeld.1, keepC hb hHeld.2.1, keepC hb hHeld.2.2.1, keepC hb hHeld.2.2.2.1, keepC hb hHeld.2.2.2.2.1, keepC hb hHeld.2.2.2.2.2.1, after hHeld.2.2.2.2.2.2 hb⟩ (fun hNext => ?_)
        clear hHeld hK K
        have hHeld := hNext
        clear hNext
        try simp only [Act.put, List.setIfInBounds_toArray, List.set_cons_zero, List.set_cons_succ]
        rw [← hR]
        exact st_3_10_0 _ g10 hHeld (n10.below hb)
      · go_simp
        go_wp2_with fail
        refine hK.out _ _ ⟨keepN _ hHeld.1, keepN _ hHeld.2.1, keepN _ hHeld.2.2.1, keepN _ hHeld.2.2.2.1, keepN _ hHeld.2.2.2.2.1, keepN _ hHeld.2.2.2.2.2.1, boxed hHeld.2.2.2.2.2.2 _⟩ (fun hNext => ?_)
        clear hHeld hK K
        have hHeld := hNext
        clear hNext
        try simp only [Act.put, List.setIfInBounds_toArray, List.set_cons_zero, List.set_cons_succ]
        rw [← hR]
        exact st_2_910_0 _ _ g10 hHeld (New2.made (by omega) 0 0) (n10.alloc _) (by have := n10.lt; omega)
      · go_simp
        go_wp2_with fail
        refine hK.out _ _ ⟨keepN _ hHeld.1, keepN _ hHeld.2.1, keepN _ hHeld.2.2.1, keepN _ hHeld.2.2.2.1, keepN _ hHeld.2.2.2.2.1, keepN _ hHeld.2.2.2.2.2.1, boxed hHeld.2.2.2.2.2.2 _⟩ (fun hNext => ?_)
        clear hHeld hK K
        have hHeld := hNext
        clear hNext
        try simp only [Act.put, List.setIfInBounds_toArray, List.set_cons_zero, List.set_cons_succ]
        rw [← hR]
        exact st_2_1011_0 _ g10 _ hHeld (n10.alloc _) (New2.made (by omega) 0 0) (by have := n10.lt; omega)
    have st_2_11_0 : ∀ (W : World) (g11 : Nat), (fun w' => w'.cell? ⟨w.heap.size, 0, none⟩ = some (.int .i64 a0) ∧ w'.cell? ⟨w.heap.size, 1, none⟩ = some (.int .i64 a1) ∧ w'.cell? ⟨w.heap.size + 1, 0, none⟩ = some (.int .i64 b0) ∧ w'.cell? ⟨w.heap.size + 1, 1, none⟩ = some (.int .i64 b1) ∧ w'.cell? ⟨w.heap.size + 1 + 1, 0, none⟩ = some (.int .i64 c0) ∧ w'.cell? ⟨w.heap.size + 1 + 1, 1, none⟩ = some (.int .i64 c1) ∧ Below w.heap.size w w') W → New2 w W g11 0 0 → R 6 #[true, true, true, true, true, true, true, true, true, false, false, false, true, false, false, false] { tmps := #[Value.agg #[Value.int IntKind.i64 a0, Value.int IntKind.i64 a1], Value.agg #[Value.int IntKind.i64 b0, Value.int IntKind.i64 b1], Value.agg #[Value.int IntKind.i64 c0, Value.int IntKind.i64 c1], Value.int IntKind.i64 v, Value.pointer (some ⟨w.heap.size, 0, none⟩), Value.pointer (some ⟨w.heap.size + 1, 0, none⟩), Value.pointer (some ⟨w.heap.size + 1 + 1, 0, none⟩), undef, Value.bool false, undef, undef, Value.pointer (some ⟨g11, 0, none⟩), Value.agg #[Value.int IntKind.i64 a0, Value.int IntKind.i64 a1], Value.agg #[Value.int IntKind.i64 b0, Value.int IntKind.i64 b1], Value.agg #[Value.int IntKind.i64 j0, Value.int IntKind.i64 j1], Value.agg #[Value.int IntKind.i64 a0, Value.int IntKind.i64 a1], Value.agg #[Value.int IntKind.i64 b0, Value.int IntKind.i64 b1], Value.agg #[Value.int IntKind.i64 m0, Value.int IntKind.i64 m1], Value.agg #[Value.int IntKind.i64 a0, Value.int IntKind.i64 a1], Value.agg #[Value.int IntKind.i64 b0, Value.int IntKind.i64 b1], Value.agg #[Value.int IntKind.i64 c0, Value.int IntKind.i64 c1], undef, undef, undef, undef, undef, undef, undef, undef, undef, undef, undef, undef, undef, undef, undef, undef, undef, undef, undef, undef, undef, undef, undef, undef, undef, undef, undef, undef, undef, undef, undef, undef, undef, undef, undef, undef, undef, undef, undef, undef, undef, undef, undef, undef, undef, undef, undef, undef, undef, undef, undef, undef, undef, undef, undef, undef, undef, undef, undef, undef, undef, undef, undef, undef, undef, undef, undef, undef, undef, undef, undef, undef, undef, undef, undef], defers := [] } W := by
      intro W g11 hHeld n11
      have hBW := hHeld.2.2.2.2.2.2
      have hbig : w.heap.size + 3 ≤ W.heap.size := by
        have := World.block_lt_of_cell? _ _ hHeld.2.2.2.2.1
        simp at this
        omega
      rw [hR]
      refine wpAnyH_ready (rs := [9, 10, 11]) (by kernel_rfl) (by simp) ?_
      refine AllReadyH.cons (by simp only [List.getElem?_toArray, List.getElem?_cons_zero, List.getElem?_cons_succ]; rfl) (fun K hK => ?_) (AllReadyH.cons (by simp only [List.getElem?_toArray, List.getElem?_cons_zero, List.getElem?_cons_succ]; rfl) (fun K hK => ?_) (AllReadyH.cons (by simp only [List.getElem?_toArray, List.getElem?_cons_zero, List.getElem?_cons_succ]; rfl) (fun K hK => ?_) (AllReadyH.nil)))
      · go_simp
        refine (widen_any _ _ _ _ _ _ _ (HL.out.after hBW)).mono ?_; rw [HX.out]; rintro e w1 ⟨rfl, hb⟩
        go_wp2_with fail
        refine hK.out _ _ ⟨keepC hb hHeld.1, keepC hb hHeld.2.1, keepC hb hHeld.2.2.1, keepC hb hHeld.2.2.2.1, keepC hb hHeld.2.2.2.2.1, keepC hb hHeld.2.2.2.2.2.1, after hHeld.2.2.2.2.2.2 hb⟩ (fun hNext => ?_)
        clear hHeld hK K
        have hHeld := hNext
        clear hNext
        try simp only [Act.put, List.setIfInBounds_toArray, List.set_cons_zero, List.set_cons_succ]
        rw [← hR]
        exact st_3_11_0 _ g11 hHeld (n11.below hb)
      · go_simp
        go_wp2_with fail
        refine hK.out _ _ ⟨keepN _ hHeld.1, keepN _ hHeld.2.1, keepN _ hHeld.2.2.1, keepN _ hHeld.2.2.2.1, keepN _ hHeld.2.2.2.2.1, keepN _ hHeld.2.2.2.2.2.1, boxed hHeld.2.2.2.2.2.2 _⟩ (fun hNext => ?_)
        clear hHeld hK K
        have hHeld := hNext
        clear hNext
        try simp only [Act.put, List.setIfInBounds_toArray, List.set_cons_zero, List.set_cons_succ]
        rw [← hR]
        exact st_2_911_0 _ _ g11 hHeld (New2.made (by omega) 0 0) (n11.alloc _) (by have := n11.lt; omega)
      · go_simp
        go_wp2_with fail
        refine hK.out _ _ ⟨keepN _ hHeld.1, keepN _ hHeld.2.1, keepN _ hHeld.2.2.1, keepN _ hHeld.2.2.2.1, keepN _ hHeld.2.2.2.2.1, keepN _ hHeld.2.2.2.2.2.1, boxed hHeld.2.2.2.2.2.2 _⟩ (fun hNext => ?_)
        clear hHeld hK K
        have hHeld := hNext
        clear hNext
        try simp only [Act.put, List.setIfInBounds_toArray, List.set_cons_zero, List.set_cons_succ]
        rw [← hR]
        exact st_2_1011_0 _ _ g11 hHeld (New2.made (by omega) 0 0) (n11.alloc _) (by have := n11.lt; omega)
    have st_2__0 : ∀ (W : World), (fun w' => w'.cell? ⟨w.heap.size, 0, none⟩ = some (.int .i64 a0) ∧ w'.cell? ⟨w.heap.size, 1, none⟩ = some (.int .i64 a1) ∧ w'.cell? ⟨w.heap.size + 1, 0, none⟩ = some (.int .i64 b0) ∧ w'.cell? ⟨w.heap.size + 1, 1, none⟩ = some (.int .i64 b1) ∧ w'.cell? ⟨w.heap.size + 1 + 1, 0, none⟩ = some (.int .i64 c0) ∧ w'.cell? ⟨w.heap.size + 1 + 1, 1, none⟩ = some (.int .i64 c1) ∧ Below w.heap.size w w') W → R 7 #[true, true, true, true, true, true, true, true, true, false, false, false, false, false, false, false] { tmps := #[Value.agg #[Value.int IntKind.i64 a0, Value.int IntKind.i64 a1], Value.agg #[Value.int IntKind.i64 b0, Value.int IntKind.i64 b1], Value.agg #[Value.int IntKind.i64 c0, Value.int IntKind.i64 c1], Value.int IntKind.i64 v, Value.pointer (some ⟨w.heap.size, 0, none⟩), Value.pointer (some ⟨w.heap.size + 1, 0, none⟩), Value.pointer (some ⟨w.heap.size + 1 + 1, 0, none⟩), undef, Value.bool false, undef, undef, undef, Value.agg #[Value.int IntKind.i64 a0, Value.int IntKind.i64 a1], Value.agg #[Value.int IntKind.i64 b0, Value.int IntKind.i64 b1], Value.agg #[Value.int IntKind.i64 j0, Value.int IntKind.i64 j1], Value.agg #[Value.int IntKind.i64 a0, Value.int IntKind.i64 a1], Value.agg #[Value.int IntKind.i64 b0, Value.int IntKind.i64 b1], Value.agg #[Value.int IntKind.i64 m0, Value.int IntKind.i64 m1], Value.agg #[Value.int IntKind.i64 a0, Value.int IntKind.i64 a1], Value.agg #[Value.int IntKind.i64 b0, Value.int IntKind.i64 b1], Value.agg #[Value.int IntKind.i64 c0, Value.int IntKind.i64 c1], undef, undef, undef, undef, undef, undef, undef, undef, undef, undef, undef, undef, undef, undef, undef, undef, undef, undef, undef, undef, undef, undef, undef, undef, undef, undef, undef, undef, undef, undef, undef, undef, undef, undef, undef, undef, undef, undef, undef, undef, undef, undef, undef, undef, undef, undef, undef, undef, undef, undef, undef, undef, undef, undef, undef, undef, undef, undef, undef, undef, undef, undef, undef, undef, undef, undef, undef, undef, undef, undef, undef, undef, undef, undef, undef], defers := [] } W := by
      intro W  hHeld 
      have hBW := hHeld.2.2.2.2.2.2
      have hbig : w.heap.size + 3 ≤ W.heap.size := by
        have := World.block_lt_of_cell? _ _ hHeld.2.2.2.2.1
        simp at this
        omega
      rw [hR]
      refine wpAnyH_ready (rs := [9, 10, 11, 12]) (by kernel_rfl) (by simp) ?_
      refine AllReadyH.cons (by simp only [List.getElem?_toArray, List.getElem?_cons_zero, List.getElem?_cons_succ]; rfl) (fun K hK => ?_) (AllReadyH.cons (by simp only [List.getElem?_toArray, List.getElem?_cons_zero, List.getElem?_cons_succ]; rfl) (fun K hK => ?_) (AllReadyH.cons (by simp only [List.getElem?_toArray, List.getElem?_cons_zero, List.getElem?_cons_succ]; rfl) (fun K hK => ?_) (AllReadyH.cons (by simp only [List.getElem?_toArray, List.getElem?_cons_zero, List.getElem?_cons_succ]; rfl) (fun K hK => ?_) (AllReadyH.nil))))
      · go_simp
        refine (widen_any _ _ _ _ _ _ _ (HL.out.after hBW)).mono ?_; rw [HX.out]; rintro e w1 ⟨rfl, hb⟩
        go_wp2_with fail
        refine hK.out _ _ ⟨keepC hb hHeld.1, keepC hb hHeld.2.1, keepC hb hHeld.2.2.1, keepC hb hHeld.2.2.2.1, keepC hb hHeld.2.2.2.2.1, keepC hb hHeld.2.2.2.2.2.1, after hHeld.2.2.2.2.2.2 hb⟩ (fun hNext => ?_)
        clear hHeld hK K
        have hHeld := hNext
        clear hNext
        try simp only [Act.put, List.setIfInBounds_toArray, List.set_cons_zero, List.set_cons_succ]
        rw [← hR]
        exact st_3__0 _  hHeld
      · go_simp
        go_wp2_with fail
        refine hK.out _ _ ⟨keepN _ hHeld.1, keepN _ hHeld.2.1, keepN _ hHeld.2.2.1, keepN _ hHeld.2.2.2.1, keepN _ hHeld.2.2.2.2.1, keepN _ hHeld.2.2.2.2.2.1, boxed hHeld.2.2.2.2.2.2 _⟩ (fun hNext => ?_)
        clear hHeld hK K
        have hHeld := hNext
        clear hNext
        try simp only [Act.put, List.setIfInBounds_toArray, List.set_cons_zero, List.set_cons_succ]
        rw [← hR]
        exact st_2_9_0 _ _ hHeld (New2.made (by omega) 0 0)
      · go_simp
        go_wp2_with fail
        refine hK.out _ _ ⟨keepN _ hHeld.1, keepN _ hHeld.2.1, keepN _ hHeld.2.2.1, keepN _ hHeld.2.2.2.1, keepN _ hHeld.2.2.2.2.1, keepN _ hHeld.2.2.2.2.2.1, boxed hHeld.2.2.2.2.2.2 _⟩ (fun hNext => ?_)
        clear hHeld hK K
        have hHeld := hNext
        clear hNext
        try simp only [Act.put, List.setIfInBounds_toArray, List.set_cons_zero, List.set_cons_succ]
        rw [← hR]
        exact st_2_10_0 _ _ hHeld (New2.made (by omega) 0 0)
      · go_simp
        go_wp2_with fail
        refine hK.out _ _ ⟨keepN _ hHeld.1, keepN _ hHeld.2.1, keepN _ hHeld.2.2.1, keepN _ hHeld.2.2.2.1, keepN _ hHeld.2.2.2.2.1, keepN _ hHeld.2.2.2.2.2.1, boxed hHeld.2.2.2.2.2.2 _⟩ (fun hNext => ?_)
        clear hHeld hK K
        have hHeld := hNext
        clear hNext
        try simp only [Act.put, List.setIfInBounds_toArray, List.set_cons_zero, List.set_cons_succ]
        rw [← hR]
        exact st_2_11_0 _ _ hHeld (New2.made (by omega) 0 0)
    have st_1_91011_0 : ∀ (W : World) (g9 g10 g11 : Nat), (fun w' => w'.cell? ⟨w.heap.size, 0, none⟩ = some (.int .i64 a0) ∧ w'.cell? ⟨w.heap.size, 1, none⟩ = some (.int .i64 a1) ∧ w'.cell? ⟨w.heap.size + 1, 0, none⟩ = some (.int .i64 b0) ∧ w'.cell? ⟨w.heap.size + 1, 1, none⟩ = some (.int .i64 b1) ∧ w'.cell? ⟨w.heap.size + 1 + 1, 0, none⟩ = some (.int .i64 c0) ∧ w'.cell? ⟨w.heap.size + 1 + 1, 1, none⟩ = some (.int .i64 c1) ∧ Below w.heap.size w w') W → New2 w W g9 0 0 → New2 w W g10 0 0 → New2 w W g11 0 0 → ¬ g9 = g10 → ¬ g9 = g11 → ¬ g10 = g11 → R 5 #[true, true, true, true, true, false, true, true, true, false, true, true, true, false, false, false] { tmps := #[Value.agg #[Value.int IntKind.i64 a0, Value.int IntKind.i64 a1], Value.agg #[Value.int IntKind.i64 b0, Value.int IntKind.i64 b1], Value.agg #[Value.int IntKind.i64 c0, Value.int IntKind.i64 c1], Value.int IntKind.i64 v, Value.pointer (some ⟨w.heap.size, 0, none⟩), Value.pointer (some ⟨w.heap.size + 1, 0, none⟩), Value.pointer (some ⟨w.heap.size + 1 + 1, 0, none⟩), undef, Value.bool false, Value.pointer (some ⟨g9, 0, none⟩), Value.pointer (some ⟨g10, 0, none⟩), Value.pointer (some ⟨g11, 0, none⟩), Value.agg #[Value.int IntKind.i64 a0, Value.int IntKind.i64 a1], Value.agg #[Value.int IntKind.i64 b0, Value.int IntKind.i64 b1], Value.agg #[Value.int IntKind.i64 j0, Value.int IntKind.i64 j1], Value.agg #[Value.int IntKind.i64 a0, Value.int IntKind.i64 a1], Value.agg #[Value.int IntKind.i64 b0, Value.int IntKind.i64 b1], undef, Value.agg #[Value.int IntKind.i64 a0, Value.int IntKind.i64 a1], Value.agg #[Value.int IntKind.i64 b0, Value.int IntKind.i64 b1], Value.agg #[Value.int IntKind.i64 c0, Value.int IntKind.i64 c1], undef, undef, undef, undef, undef, undef, undef, undef, undef, undef, undef, undef, undef, undef, undef, undef, undef, undef, undef, undef, undef, undef, undef, undef, undef, undef, undef, undef, undef, undef, undef, undef, undef, undef, undef, undef, undef, undef, undef, undef, undef, undef, undef, undef, undef, undef, undef, undef, undef, undef, undef, undef, undef, undef, undef, undef, undef, undef, undef, undef, undef, undef, undef, undef, undef, undef, undef, undef, undef, undef, undef, undef, undef, undef, undef], defers := [] } W := by
      intro W g9 g10 g11 hHeld n9 n10 n11 d9_10 d9_11 d10_11
      have hBW := hHeld.2.2.2.2.2.2
      have hbig : w.heap.size + 3 ≤ W.heap.size := by
        have := World.block_lt_of_cell? _ _ hHeld.2.2.2.2.1
        simp at this
        omega
      rw [hR]
      refine wpAnyH_ready (rs := [5]) (by kernel_rfl) (by simp) ?_
      refine AllReadyH.cons (by simp only [List.getElem?_toArray, List.getElem?_cons_zero, List.getElem?_cons_succ]; rfl) (fun K hK => ?_) (AllReadyH.nil)
      go_simp
      refine (meet_any _ _ _ _ _ (HL.out.after hBW)).mono ?_; rw [HM.out]; rintro e w1 ⟨rfl, hb⟩
      go_wp2_with fail
      refine hK.out _ _ ⟨keepC hb hHeld.1, keepC hb hHeld.2.1, keepC hb hHeld.2.2.1, keepC hb hHeld.2.2.2.1, keepC hb hHeld.2.2.2.2.1, keepC hb hHeld.2.2.2.2.2.1, after hHeld.2.2.2.2.2.2 hb⟩ (fun hNext => ?_)
      clear hHeld hK K
      have hHeld := hNext
      clear hNext
      try simp only [Act.put, List.setIfInBounds_toArray, List.set_cons_zero, List.set_cons_succ]
      rw [← hR]
      exact st_2_91011_0 _ g9 g10 g11 hHeld (n9.below hb) (n10.below hb) (n11.below hb) d9_10 d9_11 d10_11
    have st_1_910_0 : ∀ (W : World) (g9 g10 : Nat), (fun w' => w'.cell? ⟨w.heap.size, 0, none⟩ = some (.int .i64 a0) ∧ w'.cell? ⟨w.heap.size, 1, none⟩ = some (.int .i64 a1) ∧ w'.cell? ⟨w.heap.size + 1, 0, none⟩ = some (.int .i64 b0) ∧ w'.cell? ⟨w.heap.size + 1, 1, none⟩ = some (.int .i64 b1) ∧ w'.cell? ⟨w.heap.size + 1 + 1, 0, none⟩ = some (.int .i64 c0) ∧ w'.cell? ⟨w.heap.size + 1 + 1, 1, none⟩ = some (.int .i64 c1) ∧ Below w.heap.size w w') W → New2 w W g9 0 0 → New2 w W g10 0 0 → ¬ g9 = g10 → R 6 #[true, true, true, true, true, false, true, true, true, false, true, true, false, false, false, false] { tmps := #[Value.agg #[Value.int IntKind.i64 a0, Value.int IntKind.i64 a1], Value.agg #[Value.int IntKind.i64 b0, Value.int IntKind.i64 b1], Value.agg #[Value.int IntKind.i64 c0, Value.int IntKind.i64 c1], Value.int IntKind.i64 v, Value.pointer (some ⟨w.heap.size, 0, none⟩), Value.pointer (some ⟨w.heap.size + 1, 0, none⟩), Value.pointer (some ⟨w.heap.size + 1 + 1, 0, none⟩), undef, Value.bool false, Value.pointer (some ⟨g9, 0, none⟩), Value.pointer (some ⟨g10, 0, none⟩), undef, Value.agg #[Value.int IntKind.i64 a0, Value.int IntKind.i64 a1], Value.agg #[Value.int IntKind.i64 b0, Value.int IntKind.i64 b1], Value.agg #[Value.int IntKind.i64 j0, Value.int IntKind.i64 j1], Value.agg #[Value.int IntKind.i64 a0, Value.int IntKind.i64 a1], Value.agg #[Value.int IntKind.i64 b0, Value.int IntKind.i64 b1], undef, Value.agg #[Value.int IntKind.i64 a0, Value.int IntKind.i64 a1], Value.agg #[Value.int IntKind.i64 b0, Value.int IntKind.i64 b1], Value.agg #[Value.int IntKind.i64 c0, Value.int IntKind.i64 c1], undef, undef, undef, undef, undef, undef, undef, undef, undef, undef, undef, undef, undef, undef, undef, undef, undef, undef, undef, undef, undef, undef, undef, undef, undef, undef, undef, undef, undef, undef, undef, undef, undef, undef, undef, undef, undef, undef, undef, undef, undef, undef, undef, undef, undef, undef, undef, undef, undef, undef, undef, undef, undef, undef, undef, undef, undef, undef, undef, undef, undef, undef, undef, undef, undef, undef, undef, undef, undef, undef, undef, undef, undef, undef, undef], defers := [] } W := by
      intro W g9 g10 hHeld n9 n10 d9_10
      have hBW := hHeld.2.2.2.2.2.2
      have hbig : w.heap.size + 3 ≤ W.heap.size := by
        have := World.block_lt_of_cell? _ _ hHeld.2.2.2.2.1
        simp at this
        omega
      rw [hR]
      refine wpAnyH_ready (rs := [5, 12]) (by kernel_rfl) (by simp) ?_
      refine AllReadyH.cons (by simp only [List.getElem?_toArray, List.getElem?_cons_zero, List.getElem?_cons_succ]; rfl) (fun K hK => ?_) (AllReadyH.cons (by simp only [List.getElem?_toArray, List.getElem?_cons_zero, List.getElem?_cons_succ]; rfl) (fun K hK => ?_) (AllReadyH.nil))
      · go_simp
        refine (meet_any _ _ _ _ _ (HL.out.after hBW)).mono ?_; rw [HM.out]; rintro e w1 ⟨rfl, hb⟩
        go_wp2_with fail
        refine hK.out _ _ ⟨keepC hb hHeld.1, keepC hb hHeld.2.1, keepC hb hHeld.2.2.1, keepC hb hHeld.2.2.2.1, keepC hb hHeld.2.2.2.2.1, keepC hb hHeld.2.2.2.2.2.1, after hHeld.2.2.2.2.2.2 hb⟩ (fun hNext => ?_)
        clear hHeld hK K
        have hHeld := hNext
        clear hNext
        try simp only [Act.put, List.setIfInBounds_toArray, List.set_cons_zero, List.set_cons_succ]
        rw [← hR]
        exact st_2_910_0 _ g9 g10 hHeld (n9.below hb) (n10.below hb) d9_10
      · go_simp
        go_wp2_with fail
        refine hK.out _ _ ⟨keepN _ hHeld.1, keepN _ hHeld.2.1, keepN _ hHeld.2.2.1, keepN _ hHeld.2.2.2.1, keepN _ hHeld.2.2.2.2.1, keepN _ hHeld.2.2.2.2.2.1, boxed hHeld.2.2.2.2.2.2 _⟩ (fun hNext => ?_)
        clear hHeld hK K
        have hHeld := hNext
        clear hNext
        try simp only [Act.put, List.setIfInBounds_toArray, List.set_cons_zero, List.set_cons_succ]
        rw [← hR]
        exact st_1_91011_0 _ g9 g10 _ hHeld (n9.alloc _) (n10.alloc _) (New2.made (by omega) 0 0) d9_10 (by have := n9.lt; omega) (by have := n10.lt; omega)
    have st_1_911_0 : ∀ (W : World) (g9 g11 : Nat), (fun w' => w'.cell? ⟨w.heap.size, 0, none⟩ = some (.int .i64 a0) ∧ w'.cell? ⟨w.heap.size, 1, none⟩ = some (.int .i64 a1) ∧ w'.cell? ⟨w.heap.size + 1, 0, none⟩ = some (.int .i64 b0) ∧ w'.cell? ⟨w.heap.size + 1, 1, none⟩ = some (.int .i64 b1) ∧ w'.cell? ⟨w.heap.size + 1 + 1, 0, none⟩ = some (.int .i64 c0) ∧ w'.cell? ⟨w.heap.size + 1 + 1, 1, none⟩ = some (.int .i64 c1) ∧ Below w.heap.size w w') W → New2 w W g9 0 0 → New2 w W g11 0 0 → ¬ g9 = g11 → R 6 #[true, true, true, true, true, false, true, true, true, false, true, false, true, false, false, false] { tmps := #[Value.agg #[Value.int IntKind.i64 a0, Value.int IntKind.i64 a1], Value.agg #[Value.int IntKind.i64 b0, Value.int IntKind.i64 b1], Value.agg #[Value.int IntKind.i64 c0, Value.int IntKind.i64 c1], Value.int IntKind.i64 v, Value.pointer (some ⟨w.heap.size, 0, none⟩), Value.pointer (some ⟨w.heap.size + 1, 0, none⟩), Value.pointer (some ⟨w.heap.size + 1 + 1, 0, none⟩), undef, Value.bool false, Value.pointer (some ⟨g9, 0, none⟩), undef, Value.pointer (some ⟨g11, 0, none⟩), Value.agg #[Value.int IntKind.i64 a0, Value.int IntKind.i64 a1], Value.agg #[Value.int IntKind.i64 b0, Value.int IntKind.i64 b1], Value.agg #[Value.int IntKind.i64 j0, Value.int IntKind.i64 j1], Value.agg #[Value.int IntKind.i64 a0, Value.int IntKind.i64 a1], Value.agg #[Value.int IntKind.i64 b0, Value.int IntKind.i64 b1], undef, Value.agg #[Value.int IntKind.i64 a0, Value.int IntKind.i64 a1], Value.agg #[Value.int IntKind.i64 b0, Value.int IntKind.i64 b1], Value.agg #[Value.int IntKind.i64 c0, Value.int IntKind.i64 c1], undef, undef, undef, undef, undef, undef, undef, undef, undef, undef, undef, undef, undef, undef, undef, undef, undef, undef, undef, undef, undef, undef, undef, undef, undef, undef, undef, undef, undef, undef, undef, undef, undef, undef, undef, undef, undef, undef, undef, undef, undef, undef, undef, undef, undef, undef, undef, undef, undef, undef, undef, undef, undef, undef, undef, undef, undef, undef, undef, undef, undef, undef, undef, undef, undef, undef, undef, undef, undef, undef, undef, undef, undef, undef, undef], defers := [] } W := by
      intro W g9 g11 hHeld n9 n11 d9_11
      have hBW := hHeld.2.2.2.2.2.2
      have hbig : w.heap.size + 3 ≤ W.heap.size := by
        have := World.block_lt_of_cell? _ _ hHeld.2.2.2.2.1
        simp at this
        omega
      rw [hR]
      refine wpAnyH_ready (rs := [5, 11]) (by kernel_rfl) (by simp) ?_
      refine AllReadyH.cons (by simp only [List.getElem?_toArray, List.getElem?_cons_zero, List.getElem?_cons_succ]; rfl) (fun K hK => ?_) (AllReadyH.cons (by simp only [List.getElem?_toArray, List.getElem?_cons_zero, List.getElem?_cons_succ]; rfl) (fun K hK => ?_) (AllReadyH.nil))
      · go_simp
        refine (meet_any _ _ _ _ _ (HL.out.after hBW)).mono ?_; rw [HM.out]; rintro e w1 ⟨rfl, hb⟩
        go_wp2_with fail
        refine hK.out _ _ ⟨keepC hb hHeld.1, keepC hb hHeld.2.1, keepC hb hHeld.2.2.1, keepC hb hHeld.2.2.2.1, keepC hb hHeld.2.2.2.2.1, keepC hb hHeld.2.2.2.2.2.1, after hHeld.2.2.2.2.2.2 hb⟩ (fun hNext => ?_)
        clear hHeld hK K
        have hHeld := hNext
        clear hNext
        try simp only [Act.put, List.setIfInBounds_toArray, List.set_cons_zero, List.set_cons_succ]
        rw [← hR]
        exact st_2_911_0 _ g9 g11 hHeld (n9.below hb) (n11.below hb) d9_11
      · go_simp
        go_wp2_with fail
        refine hK.out _ _ ⟨keepN _ hHeld.1, keepN _ hHeld.2.1, keepN _ hHeld.2.2.1, keepN _ hHeld.2.2.2.1, keepN _ hHeld.2.2.2.2.1, keepN _ hHeld.2.2.2.2.2.1, boxed hHeld.2.2.2.2.2.2 _⟩ (fun hNext => ?_)
        clear hHeld hK K
        have hHeld := hNext
        clear hNext
        try simp only [Act.put, List.setIfInBounds_toArray, List.set_cons_zero, List.set_cons_succ]
        rw [← hR]
        exact st_1_91011_0 _ g9 _ g11 hHeld (n9.alloc _) (New2.made (by omega) 0 0) (n11.alloc _) (by have := n9.lt; omega) d9_11 (by have := n11.lt; omega)
    have st_1_1011_0 : ∀ (W : World) (g10 g11 : Nat), (fun w' => w'.cell? ⟨w.heap.size, 0, none⟩ = some (.int .i64 a0) ∧ w'.cell? ⟨w.heap.size, 1, none⟩ = some (.int .i64 a1) ∧ w'.cell? ⟨w.heap.size + 1, 0, none⟩ = some (.int .i64 b0) ∧ w'.cell? ⟨w.heap.size + 1, 1, none⟩ = some (.int .i64 b1) ∧ w'.cell? ⟨w.heap.size + 1 + 1, 0, none⟩ = some (.int .i64 c0) ∧ w'.cell? ⟨w.heap.size + 1 + 1, 1, none⟩ = some (.int .i64 c1) ∧ Below w.heap.size w w') W → New2 w W g10 0 0 → New2 w W g11 0 0 → ¬ g10 = g11 → R 6 #[true, true, true, true, true, false, true, true, true, false, false, true, true, false, false, false] { tmps := #[Value.agg #[Value.int IntKind.i64 a0, Value.int IntKind.i64 a1], Value.agg #[Value.int IntKind.i64 b0, Value.int IntKind.i64 b1], Value.agg #[Value.int IntKind.i64 c0, Value.int IntKind.i64 c1], Value.int IntKind.i64 v, Value.pointer (some ⟨w.heap.size, 0, none⟩), Value.pointer (some ⟨w.heap.size + 1, 0, none⟩), Value.pointer (some ⟨w.heap.size + 1 + 1, 0, none⟩), undef, Value.bool false, undef, Value.pointer (some ⟨g10, 0, none⟩), Value.pointer (some ⟨g11, 0, none⟩), Value.agg #[Value.int IntKind.i64 a0, Value.int IntKind.i64 a1], Value.agg #[Value.int IntKind.i64 b0, Value.int IntKind.i64 b1], Value.agg #[Value.int IntKind.i64 j0, Value.int IntKind.i64 j1], Value.agg #[Value.int IntKind.i64 a0, Value.int IntKind.i64 a1], Value.agg #[Value.int IntKind.i64 b0, Value.int IntKind.i64 b1], undef, Value.agg #[Value.int IntKind.i64 a0, Value.int IntKind.i64 a1], Value.agg #[Value.int IntKind.i64 b0, Value.int IntKind.i64 b1], Value.agg #[Value.int IntKind.i64 c0, Value.int IntKind.i64 c1], undef, undef, undef, undef, undef, undef, undef, undef, undef, undef, undef, undef, undef, undef, undef, undef, undef, undef, undef, undef, undef, undef, undef, undef, undef, undef, undef, undef, undef, undef, undef, undef, undef, undef, undef, undef, undef, undef, undef, undef, undef, undef, undef, undef, undef, undef, undef, undef, undef, undef, undef, undef, undef, undef, undef, undef, undef, undef, undef, undef, undef, undef, undef, undef, undef, undef, undef, undef, undef, undef, undef, undef, undef, undef, undef], defers := [] } W := by
      intro W g10 g11 hHeld n10 n11 d10_11
      have hBW := hHeld.2.2.2.2.2.2
      have hbig : w.heap.size + 3 ≤ W.heap.size := by
        have := World.block_lt_of_cell? _ _ hHeld.2.2.2.2.1
        simp at this
        omega
      rw [hR]
      refine wpAnyH_ready (rs := [5, 10]) (by kernel_rfl) (by simp) ?_
      refine AllReadyH.cons (by simp only [List.getElem?_toArray, List.getElem?_cons_zero, List.getElem?_cons_succ]; rfl) (fun K hK => ?_) (AllReadyH.cons (by simp only [List.getElem?_toArray, List.getElem?_cons_zero, List.getElem?_cons_succ]; rfl) (fun K hK => ?_) (AllReadyH.nil))
      · go_simp
        refine (meet_any _ _ _ _ _ (HL.out.after hBW)).mono ?_; rw [HM.out]; rintro e w1 ⟨rfl, hb⟩
        go_wp2_with fail
        refine hK.out _ _ ⟨keepC hb hHeld.1, keepC hb hHeld.2.1, keepC hb hHeld.2.2.1, keepC hb hHeld.2.2.2.1, keepC hb hHeld.2.2.2.2.1, keepC hb hHeld.2.2.2.2.2.1, after hHeld.2.2.2.2.2.2 hb⟩ (fun hNext => ?_)
        clear hHeld hK K
        have hHeld := hNext
        clear hNext
        try simp only [Act.put, List.setIfInBounds_toArray, List.set_cons_zero, List.set_cons_succ]
        rw [← hR]
        exact st_2_1011_0 _ g10 g11 hHeld (n10.below hb) (n11.below hb) d10_11
      · go_simp
        go_wp2_with fail
        refine hK.out _ _ ⟨keepN _ hHeld.1, keepN _ hHeld.2.1, keepN _ hHeld.2.2.1, keepN _ hHeld.2.2.2.1, keepN _ hHeld.2.2.2.2.1, keepN _ hHeld.2.2.2.2.2.1, boxed hHeld.2.2.2.2.2.2 _⟩ (fun hNext => ?_)
        clear hHeld hK K
        have hHeld := hNext
        clear hNext
        try simp only [Act.put, List.setIfInBounds_toArray, List.set_cons_zero, List.set_cons_succ]
        rw [← hR]
        exact st_1_91011_0 _ _ g10 g11 hHeld (New2.made (by omega) 0 0) (n10.alloc _) (n11.alloc _) (by have := n10.lt; omega) (by have := n11.lt; omega) d10_11
    have st_1_9_0 : ∀ (W : World) (g9 : Nat), (fun w' => w'.cell? ⟨w.heap.size, 0, none⟩ = some (.int .i64 a0) ∧ w'.cell? ⟨w.heap.size, 1, none⟩ = some (.int .i64 a1) ∧ w'.cell? ⟨w.heap.size + 1, 0, none⟩ = some (.int .i64 b0) ∧ w'.cell? ⟨w.heap.size + 1, 1, none⟩ = some (.int .i64 b1) ∧ w'.cell? ⟨w.heap.size + 1 + 1, 0, none⟩ = some (.int .i64 c0) ∧ w'.cell? ⟨w.heap.size + 1 + 1, 1, none⟩ = some (.int .i64 c1) ∧ Below w.heap.size w w') W → New2 w W g9 0 0 → R 7 #[true, true, true, true, true, false, true, true, true, false, true, false, false, false, false, false] { tmps := #[Value.agg #[Value.int IntKind.i64 a0, Value.int IntKind.i64 a1], Value.agg #[Value.int IntKind.i64 b0, Value.int IntKind.i64 b1], Value.agg #[Value.int IntKind.i64 c0, Value.int IntKind.i64 c1], Value.int IntKind.i64 v, Value.pointer (some ⟨w.heap.size, 0, none⟩), Value.pointer (some ⟨w.heap.size + 1, 0, none⟩), Value.pointer (some ⟨w.heap.size + 1 + 1, 0, none⟩), undef, Value.bool false, Value.pointer (some ⟨g9, 0, none⟩), undef, undef, Value.agg #[Value.int IntKind.i64 a0, Value.int IntKind.i64 a1], Value.agg #[Value.int IntKind.i64 b0, Value.int IntKind.i64 b1], Value.agg #[Value.int IntKind.i64 j0, Value.int IntKind.i64 j1], Value.agg #[Value.int IntKind.i64 a0, Value.int IntKind.i64 a1], Value.agg #[Value.int IntKind.i64 b0, Value.int IntKind.i64 b1], undef, Value.agg #[Value.int IntKind.i64 a0, Value.int IntKind.i64 a1], Value.agg #[Value.int IntKind.i64 b0, Value.int IntKind.i64 b1], Value.agg #[Value.int IntKind.i64 c0, Value.int IntKind.i64 c1], undef, undef, undef, undef, undef, undef, undef, undef, undef, undef, undef, undef, undef, undef, undef, undef, undef, undef, undef, undef, undef, undef, undef, undef, undef, undef, undef, undef, undef, undef, undef, undef, undef, undef, undef, undef, undef, undef, undef, undef, undef, undef, undef, undef, undef, undef, undef, undef, undef, undef, undef, undef, undef, undef, undef, undef, undef, undef, undef, undef, undef, undef, undef, undef, undef, undef, undef, undef, undef, undef, undef, undef, undef, undef, undef], defers := [] } W := by
      intro W g9 hHeld n9
      have hBW := hHeld.2.2.2.2.2.2
      have hbig : w.heap.size + 3 ≤ W.heap.size := by
        have := World.block_lt_of_cell? _ _ hHeld.2.2.2.2.1
        simp at this
        omega
      rw [hR]
      refine wpAnyH_ready (rs := [5, 11, 12]) (by kernel_rfl) (by simp) ?_
      refine AllReadyH.cons (by simp only [List.getElem?_toArray, List.getElem?_cons_zero, List.getElem?_cons_succ]; rfl) (fun K hK => ?_) (AllReadyH.cons (by simp only [List.getElem?_toArray, List.getElem?_cons_zero, List.getElem?_cons_succ]; rfl) (fun K hK => ?_) (AllReadyH.cons (by simp only [List.getElem?_toArray, List.getElem?_cons_zero, List.getElem?_cons_succ]; rfl) (fun K hK => ?_) (AllReadyH.nil)))
      · go_simp
        refine (meet_any _ _ _ _ _ (HL.out.after hBW)).mono ?_; rw [HM.out]; rintro e w1 ⟨rfl, hb⟩
        go_wp2_with fail
        refine hK.out _ _ ⟨keepC hb hHeld.1, keepC hb hHeld.2.1, keepC hb hHeld.2.2.1, keepC hb hHeld.2.2.2.1, keepC hb hHeld.2.2.2.2.1, keepC hb hHeld.2.2.2.2.2.1, after hHeld.2.2.2.2.2.2 hb⟩ (fun hNext => ?_)
        clear hHeld hK K
        have hHeld := hNext
        clear hNext
        try simp only [Act.put, List.setIfInBounds_toArray, List.set_cons_zero, List.set_cons_succ]
        rw [← hR]
        exact st_2_9_0 _ g9 hHeld (n9.below hb)
      · go_simp
        go_wp2_with fail
        refine hK.out _ _ ⟨keepN _ hHeld.1, keepN _ hHeld.2.1, keepN _ hHeld.2.2.1, keepN _ hHeld.2.2.2.1, keepN _ hHeld.2.2.2.2.1, keepN _ hHeld.2.2.2.2.2.1, boxed hHeld.2.2.2.2.2.2 _⟩ (fun hNext => ?_)
        clear hHeld hK K
        have hHeld := hNext
        clear hNext
        try simp only [Act.put, List.setIfInBounds_toArray, List.set_cons_zero, List.set_cons_succ]
        rw [← hR]
        exact st_1_910_0 _ g9 _ hHeld (n9.alloc _) (New2.made (by omega) 0 0) (by have := n9.lt; omega)
      · go_simp
        go_wp2_with fail
        refine hK.out _ _ ⟨keepN _ hHeld.1, keepN _ hHeld.2.1, keepN _ hHeld.2.2.1, keepN _ hHeld.2.2.2.1, keepN _ hHeld.2.2.2.2.1, keepN _ hHeld.2.2.2.2.2.1, boxed hHeld.2.2.2.2.2.2 _⟩ (fun hNext => ?_)
        clear hHeld hK K
        have hHeld := hNext
        clear hNext
        try simp only [Act.put, List.setIfInBounds_toArray, List.set_cons_zero, List.set_cons_succ]
        rw [← hR]
        exact st_1_911_0 _ g9 _ hHeld (n9.alloc _) (New2.made (by omega) 0 0) (by have := n9.lt; omega)
    have st_1_10_0 : ∀ (W : World) (g10 : Nat), (fun w' => w'.cell? ⟨w.heap.size, 0, none⟩ = some (.int .i64 a0) ∧ w'.cell? ⟨w.heap.size, 1, none⟩ = some (.int .i64 a1) ∧ w'.cell? ⟨w.heap.size + 1, 0, none⟩ = some (.int .i64 b0) ∧ w'.cell? ⟨w.heap.size + 1, 1, none⟩ = some (.int .i64 b1) ∧ w'.cell? ⟨w.heap.size + 1 + 1, 0, none⟩ = some (.int .i64 c0) ∧ w'.cell? ⟨w.heap.size + 1 + 1, 1, none⟩ = some (.int .i64 c1) ∧ Below w.heap.size w w') W → New2 w W g10 0 0 → R 7 #[true, true, true, true, true, false, true, true, true, false, false, true, false, false, false, false] { tmps := #[Value.agg #[Value.int IntKind.i64 a0, Value.int IntKind.i64 a1], Value.agg #[Value.int IntKind.i64 b0, Value.int IntKind.i64 b1], Value.agg #[Value.int IntKind.i64 c0, Value.int IntKind.i64 c1], Value.int IntKind.i64 v, Value.pointer (some ⟨w.heap.size, 0, none⟩), Value.pointer (some ⟨w.heap.size + 1, 0, none⟩), Value.pointer (some ⟨w.heap.size + 1 + 1, 0, none⟩), undef, Value.bool false, undef, Value.pointer (some ⟨g10, 0, none⟩), undef, Value.agg #[Value.int IntKind.i64 a0, Value.int IntKind.i64 a1], Value.agg #[Value.int IntKind.i64 b0, Value.int IntKind.i64 b1], Value.agg #[Value.int IntKind.i64 j0, Value.int IntKind.i64 j1], Value.agg #[Value.int IntKind.i64 a0, Value.int IntKind.i64 a1], Value.agg #[Value.int IntKind.i64 b0, Value.int IntKind.i64 b1], undef, Value.agg #[Value.int IntKind.i64 a0, Value.int IntKind.i64 a1], Value.agg #[Value.int IntKind.i64 b0, Value.int IntKind.i64 b1], Value.agg #[Value.int IntKind.i64 c0, Value.int IntKind.i64 c1], undef, undef, undef, undef, undef, undef, undef, undef, undef, undef, undef, undef, undef, undef, undef, undef, undef, undef, undef, undef, undef, undef, undef, undef, undef, undef, undef, undef, undef, undef, undef, undef, undef, undef, undef, undef, undef, undef, undef, undef, undef, undef, undef, undef, undef, undef, undef, undef, undef, undef, undef, undef, undef, undef, undef, undef, undef, undef, undef, undef, undef, undef, undef, undef, undef, undef, undef, undef, undef, undef, undef, undef, undef, undef, undef], defers := [] } W := by
      intro W g10 hHeld n10
      have hBW := hHeld.2.2.2.2.2.2
      have hbig : w.heap.size + 3 ≤ W.heap.size := by
        have := World.block_lt_of_cell? _ _ hHeld.2.2.2.2.1
        simp at this
        omega
      rw [hR]
      refine wpAnyH_ready (rs := [5, 10, 12]) (by kernel_rfl) (by simp) ?_
      refine AllReadyH.cons (by simp only [List.getElem?_toArray, List.getElem?_cons_zero, List.getElem?_cons_succ]; rfl) (fun K hK => ?_) (AllReadyH.cons (by simp only [List.getElem?_toArray, List.getElem?_cons_zero, List.getElem?_cons_succ]; rfl) (fun K hK => ?_) (AllReadyH.cons (by simp only [List.getElem?_toArray, List.getElem?_cons_zero, List.getElem?_cons_succ]; rfl) (fun K hK => ?_) (AllReadyH.nil)))
      · go_simp
        refine (meet_any _ _ _ _ _ (HL.out.after hBW)).mono ?_; rw [HM.out]; rintro e w1 ⟨rfl, hb⟩
        go_wp2_with fail
        refine hK.out _ _ ⟨keepC hb hHeld.1, keepC hb hHeld.2.1, keepC hb hHeld.2.2.1, keepC hb hHeld.2.2.2.1, keepC hb hHeld.2.2.2.2.1, keepC hb hHeld.2.2.2.2.2.1, after hHeld.2.2.2.2.2.2 hb⟩ (fun hNext => ?_)
        clear hHeld hK K
        have hHeld := hNext
        clear hNext
        try simp only [Act.put, List.setIfInBounds_toArray, List.set_cons_zero, List.set_cons_succ]
        rw [← hR]
        exact st_2_10_0 _ g10 hHeld (n10.below hb)
      · go_simp
        go_wp2_with fail
        refine hK.out _ _ ⟨keepN _ hHeld.1, keepN _ hHeld.2.1, keepN _ hHeld.2.2.1, keepN _ hHeld.2.2.2.1, keepN _ hHeld.2.2.2.2.1, keepN _ hHeld.2.2.2.2.2.1, boxed hHeld.2.2.2.2.2.2 _⟩ (fun hNext => ?_)
        clear hHeld hK K
        have hHeld := hNext
        clear hNext
        try simp only [Act.put, List.setIfInBounds_toArray, List.set_cons_zero, List.set_cons_succ]
        rw [← hR]
        exact st_1_910_0 _ _ g10 hHeld (New2.made (by omega) 0 0) (n10.alloc _) (by have := n10.lt; omega)
      · go_simp
        go_wp2_with fail
        refine hK.out _ _ ⟨keepN _ hHeld.1, keepN _ hHeld.2.1, keepN _ hHeld.2.2.1, keepN _ hHeld.2.2.2.1, keepN _ hHeld.2.2.2.2.1, keepN _ hHeld.2.2.2.2.2.1, boxed hHeld.2.2.2.2.2.2 _⟩ (fun hNext => ?_)
        clear hHeld hK K
        have hHeld := hNext
        clear hNext
        try simp only [Act.put, List.setIfInBounds_toArray, List.set_cons_zero, List.set_cons_succ]
        rw [← hR]
        exact st_1_1011_0 _ g10 _ hHeld (n10.alloc _) (New2.made (by omega) 0 0) (by have := n10.lt; omega)
    have st_1_11_0 : ∀ (W : World) (g11 : Nat), (fun w' => w'.cell? ⟨w.heap.size, 0, none⟩ = some (.int .i64 a0) ∧ w'.cell? ⟨w.heap.size, 1, none⟩ = some (.int .i64 a1) ∧ w'.cell? ⟨w.heap.size + 1, 0, none⟩ = some (.int .i64 b0) ∧ w'.cell? ⟨w.heap.size + 1, 1, none⟩ = some (.int .i64 b1) ∧ w'.cell? ⟨w.heap.size + 1 + 1, 0, none⟩ = some (.int .i64 c0) ∧ w'.cell? ⟨w.heap.size + 1 + 1, 1, none⟩ = some (.int .i64 c1) ∧ Below w.heap.size w w') W → New2 w W g11 0 0 → R 7 #[true, true, true, true, true, false, true, true, true, false, false, false, true, false, false, false] { tmps := #[Value.agg #[Value.int IntKind.i64 a0, Value.int IntKind.i64 a1], Value.agg #[Value.int IntKind.i64 b0, Value.int IntKind.i64 b1], Value.agg #[Value.int IntKind.i64 c0, Value.int IntKind.i64 c1], Value.int IntKind.i64 v, Value.pointer (some ⟨w.heap.size, 0, none⟩), Value.pointer (some ⟨w.heap.size + 1, 0, none⟩), Value.pointer (some ⟨w.heap.size + 1 + 1, 0, none⟩), undef, Value.bool false, undef, undef, Value.pointer (some ⟨g11, 0, none⟩), Value.agg #[Value.int IntKind.i64 a0, Value.int IntKind.i64 a1], Value.agg #[Value.int IntKind.i64 b0, Value.int IntKind.i64 b1], Value.agg #[Value.int IntKind.i64 j0, Value.int IntKind.i64 j1], Value.agg #[Value.int IntKind.i64 a0, Value.int IntKind.i64 a1], Value.agg #[Value.int IntKind.i64 b0, Value.int IntKind.i64 b1], undef, Value.agg #[Value.int IntKind.i64 a0, Value.int IntKind.i64 a1], Value.agg #[Value.int IntKind.i64 b0, Value.int IntKind.i64 b1], Value.agg #[Value.int IntKind.i64 c0, Value.int IntKind.i64 c1], undef, undef, undef, undef, undef, undef, undef, undef, undef, undef, undef, undef, undef, undef, undef, undef, undef, undef, undef, undef, undef, undef, undef, undef, undef, undef, undef, undef, undef, undef, undef, undef, undef, undef, undef, undef, undef, undef, undef, undef, undef, undef, undef, undef, undef, undef, undef, undef, undef, undef, undef, undef, undef, undef, undef, undef, undef, undef, undef, undef, undef, undef, undef, undef, undef, undef, undef, undef, undef, undef, undef, undef, undef, undef, undef], defers := [] } W := by
      intro W g11 hHeld n11
      have hBW := hHeld.2.2.2.2.2.2
      have hbig : w.heap.size + 3 ≤ W.heap.size := by
        have := World.block_lt_of_cell? _ _ hHeld.2.2.2.2.1
        simp at this
        omega
      rw [hR]
      refine wpAnyH_ready (rs := [5, 10, 11]) (by kernel_rfl) (by simp) ?_
      refine AllReadyH.cons (by simp only [List.getElem?_toArray, List.getElem?_cons_zero, List.getElem?_cons_succ]; rfl) (fun K hK => ?_) (AllReadyH.cons (by simp only [List.getElem?_toArray, List.getElem?_cons_zero, List.getElem?_cons_succ]; rfl) (fun K hK => ?_) (AllReadyH.cons (by simp only [List.getElem?_toArray, List.getElem?_cons_zero, List.getElem?_cons_succ]; rfl) (fun K hK => ?_) (AllReadyH.nil)))
      · go_simp
        refine (meet_any _ _ _ _ _ (HL.out.after hBW)).mono ?_; rw [HM.out]; rintro e w1 ⟨rfl, hb⟩
        go_wp2_with fail
        refine hK.out _ _ ⟨keepC hb hHeld.1, keepC hb hHeld.2.1, keepC hb hHeld.2.2.1, keepC hb hHeld.2.2.2.1, keepC hb hHeld.2.2.2.2.1, keepC hb hHeld.2.2.2.2.2.1, after hHeld.2.2.2.2.2.2 hb⟩ (fun hNext => ?_)
        clear hHeld hK K
        have hHeld := hNext
        clear hNext
        try simp only [Act.put, List.setIfInBounds_toArray, List.set_cons_zero, List.set_cons_succ]
        rw [← hR]
        exact st_2_11_0 _ g11 hHeld (n11.below hb)
      · go_simp
        go_wp2_with fail
        refine hK.out _ _ ⟨keepN _ hHeld.1, keepN _ hHeld.2.1, keepN _ hHeld.2.2.1, keepN _ hHeld.2.2.2.1, keepN _ hHeld.2.2.2.2.1, keepN _ hHeld.2.2.2.2.2.1, boxed hHeld.2.2.2.2.2.2 _⟩ (fun hNext => ?_)
        clear hHeld hK K
        have hHeld := hNext
        clear hNext
        try simp only [Act.put, List.setIfInBounds_toArray, List.set_cons_zero, List.set_cons_succ]
        rw [← hR]
        exact st_1_911_0 _ _ g11 hHeld (New2.made (by omega) 0 0) (n11.alloc _) (by have := n11.lt; omega)
      · go_simp
        go_wp2_with fail
        refine hK.out _ _ ⟨keepN _ hHeld.1, keepN _ hHeld.2.1, keepN _ hHeld.2.2.1, keepN _ hHeld.2.2.2.1, keepN _ hHeld.2.2.2.2.1, keepN _ hHeld.2.2.2.2.2.1, boxed hHeld.2.2.2.2.2.2 _⟩ (fun hNext => ?_)
        clear hHeld hK K
        have hHeld := hNext
        clear hNext
        try simp only [Act.put, List.setIfInBounds_toArray, List.set_cons_zero, List.set_cons_succ]
        rw [← hR]
        exact st_1_1011_0 _ _ g11 hHeld (New2.made (by omega) 0 0) (n11.alloc _) (by have := n11.lt; omega)
    have st_1__0 : ∀ (W : World), (fun w' => w'.cell? ⟨w.heap.size, 0, none⟩ = some (.int .i64 a0) ∧ w'.cell? ⟨w.heap.size, 1, none⟩ = some (.int .i64 a1) ∧ w'.cell? ⟨w.heap.size + 1, 0, none⟩ = some (.int .i64 b0) ∧ w'.cell? ⟨w.heap.size + 1, 1, none⟩ = some (.int .i64 b1) ∧ w'.cell? ⟨w.heap.size + 1 + 1, 0, none⟩ = some (.int .i64 c0) ∧ w'.cell? ⟨w.heap.size + 1 + 1, 1, none⟩ = some (.int .i64 c1) ∧ Below w.heap.size w w') W → R 8 #[true, true, true, true, true, false, true, true, true, false, false, false, false, false, false, false] { tmps := #[Value.agg #[Value.int IntKind.i64 a0, Value.int IntKind.i64 a1], Value.agg #[Value.int IntKind.i64 b0, Value.int IntKind.i64 b1], Value.agg #[Value.int IntKind.i64 c0, Value.int IntKind.i64 c1], Value.int IntKind.i64 v, Value.pointer (some ⟨w.heap.size, 0, none⟩), Value.pointer (some ⟨w.heap.size + 1, 0, none⟩), Value.pointer (some ⟨w.heap.size + 1 + 1, 0, none⟩), undef, Value.bool false, undef, undef, undef, Value.agg #[Value.int IntKind.i64 a0, Value.int IntKind.i64 a1], Value.agg #[Value.int IntKind.i64 b0, Value.int IntKind.i64 b1], Value.agg #[Value.int IntKind.i64 j0, Value.int IntKind.i64 j1], Value.agg #[Value.int IntKind.i64 a0, Value.int IntKind.i64 a1], Value.agg #[Value.int IntKind.i64 b0, Value.int IntKind.i64 b1], undef, Value.agg #[Value.int IntKind.i64 a0, Value.int IntKind.i64 a1], Value.agg #[Value.int IntKind.i64 b0, Value.int IntKind.i64 b1], Value.agg #[Value.int IntKind.i64 c0, Value.int IntKind.i64 c1], undef, undef, undef, undef, undef, undef, undef, undef, undef, undef, undef, undef, undef, undef, undef, undef, undef, undef, undef, undef, undef, undef, undef, undef, undef, undef, undef, undef, undef, undef, undef, undef, undef, undef, undef, undef, undef, undef, undef, undef, undef, undef, undef, undef, undef, undef, undef, undef, undef, undef, undef, undef, undef, undef, undef, undef, undef, undef, undef, undef, undef, undef, undef, undef, undef, undef, undef, undef, undef, undef, undef, undef, undef, undef, undef], defers := [] } W := by
      intro W  hHeld 
      have hBW := hHeld.2.2.2.2.2.2
      have hbig : w.heap.size + 3 ≤ W.heap.size := by
        have := World.block_lt_of_cell? _ _ hHeld.2.2.2.2.1
        simp at this
        omega
      rw [hR]
      refine wpAnyH_ready (rs := [5, 10, 11, 12]) (by kernel_rfl) (by simp) ?_
      refine AllReadyH.cons (by simp only [List.getElem?_toArray, List.getElem?_cons_zero, List.getElem?_cons_succ]; rfl) (fun K hK => ?_) (AllReadyH.cons (by simp only [List.getElem?_toArray, List.getElem?_cons_zero, List.getElem?_cons_succ]; rfl) (fun K hK => ?_) (AllReadyH.cons (by simp only [List.getElem?_toArray, List.getElem?_cons_zero, List.getElem?_cons_succ]; rfl) (fun K hK => ?_) (AllReadyH.cons (by simp only [List.getElem?_toArray, List.getElem?_cons_zero, List.getElem?_cons_succ]; rfl) (fun K hK => ?_) (AllReadyH.nil))))
      · go_simp
        refine (meet_any _ _ _ _ _ (HL.out.after hBW)).mono ?_; rw [HM.out]; rintro e w1 ⟨rfl, hb⟩
        go_wp2_with fail
        refine hK.out _ _ ⟨keepC hb hHeld.1, keepC hb hHeld.2.1, keepC hb hHeld.2.2.1, keepC hb hHeld.2.2.2.1, keepC hb hHeld.2.2.2.2.1, keepC hb hHeld.2.2.2.2.2.1, after hHeld.2.2.2.2.2.2 hb⟩ (fun hNext => ?_)
        clear hHeld hK K
        have hHeld := hNext
        clear hNext
        try simp only [Act.put, List.setIfInBounds_toArray, List.set_cons_zero, List.set_cons_succ]
        rw [← hR]
        exact st_2__0 _  hHeld
      · go_simp
        go_wp2_with fail
        refine hK.out _ _ ⟨keepN _ hHeld.1, keepN _ hHeld.2.1, keepN _ hHeld.2.2.1, keepN _ hHeld.2.2.2.1, keepN _ hHeld.2.2.2.2.1, keepN _ hHeld.2.2.2.2.2.1, boxed hHeld.2.2.2.2.2.2 _⟩ (fun hNext => ?_)
        clear hHeld hK K
        have hHeld := hNext
        clear hNext
        try simp only [Act.put, List.setIfInBounds_toArray, List.set_cons_zero, List.set_cons_succ]
        rw [← hR]
        exact st_1_9_0 _ _ hHeld (New2.made (by omega) 0 0)
      · go_simp
        go_wp2_with fail
        refine hK.out _ _ ⟨keepN _ hHeld.1, keepN _ hHeld.2.1, keepN _ hHeld.2.2.1, keepN _ hHeld.2.2.2.1, keepN _ hHeld.2.2.2.2.1, keepN _ hHeld.2.2.2.2.2.1, boxed hHeld.2.2.2.2.2.2 _⟩ (fun hNext => ?_)
        clear hHeld hK K
        have hHeld := hNext
        clear hNext
        try simp only [Act.put, List.setIfInBounds_toArray, List.set_cons_zero, List.set_cons_succ]
        rw [← hR]
        exact st_1_10_0 _ _ hHeld (New2.made (by omega) 0 0)
      · go_simp
        go_wp2_with fail
        refine hK.out _ _ ⟨keepN _ hHeld.1, keepN _ hHeld.2.1, keepN _ hHeld.2.2.1, keepN _ hHeld.2.2.2.1, keepN _ hHeld.2.2.2.2.1, keepN _ hHeld.2.2.2.2.2.1, boxed hHeld.2.2.2.2.2.2 _⟩ (fun hNext => ?_)
        clear hHeld hK K
        have hHeld := hNext
        clear hNext
        try simp only [Act.put, List.setIfInBounds_toArray, List.set_cons_zero, List.set_cons_succ]
        rw [← hR]
        exact st_1_11_0 _ _ hHeld (New2.made (by omega) 0 0)
    have st_0_91011_0 : ∀ (W : World) (g9 g10 g11 : Nat), (fun w' => w'.cell? ⟨w.heap.size, 0, none⟩ = some (.int .i64 a0) ∧ w'.cell? ⟨w.heap.size, 1, none⟩ = some (.int .i64 a1) ∧ w'.cell? ⟨w.heap.size + 1, 0, none⟩ = some (.int .i64 b0) ∧ w'.cell? ⟨w.heap.size + 1, 1, none⟩ = some (.int .i64 b1) ∧ w'.cell? ⟨w.heap.size + 1 + 1, 0, none⟩ = some (.int .i64 c0) ∧ w'.cell? ⟨w.heap.size + 1 + 1, 1, none⟩ = some (.int .i64 c1) ∧ Below w.heap.size w w') W → New2 w W g9 0 0 → New2 w W g10 0 0 → New2 w W g11 0 0 → ¬ g9 = g10 → ¬ g9 = g11 → ¬ g10 = g11 → R 6 #[true, true, false, true, true, false, true, true, true, false, true, true, true, false, false, false] { tmps := #[Value.agg #[Value.int IntKind.i64 a0, Value.int IntKind.i64 a1], Value.agg #[Value.int IntKind.i64 b0, Value.int IntKind.i64 b1], Value.agg #[Value.int IntKind.i64 c0, Value.int IntKind.i64 c1], Value.int IntKind.i64 v, Value.pointer (some ⟨w.heap.size, 0, none⟩), Value.pointer (some ⟨w.heap.size + 1, 0, none⟩), Value.pointer (some ⟨w.heap.size + 1 + 1, 0, none⟩), undef, Value.bool false, Value.pointer (some ⟨g9, 0, none⟩), Value.pointer (some ⟨g10, 0, none⟩), Value.pointer (some ⟨g11, 0, none⟩), Value.agg #[Value.int IntKind.i64 a0, Value.int IntKind.i64 a1], Value.agg #[Value.int IntKind.i64 b0, Value.int IntKind.i64 b1], undef, Value.agg #[Value.int IntKind.i64 a0, Value.int IntKind.i64 a1], Value.agg #[Value.int IntKind.i64 b0, Value.int IntKind.i64 b1], undef, Value.agg #[Value.int IntKind.i64 a0, Value.int IntKind.i64 a1], Value.agg #[Value.int IntKind.i64 b0, Value.int IntKind.i64 b1], Value.agg #[Value.int IntKind.i64 c0, Value.int IntKind.i64 c1], undef, undef, undef, undef, undef, undef, undef, undef, undef, undef, undef, undef, undef, undef, undef, undef, undef, undef, undef, undef, undef, undef, undef, undef, undef, undef, undef, undef, undef, undef, undef, undef, undef, undef, undef, undef, undef, undef, undef, undef, undef, undef, undef, undef, undef, undef, undef, undef, undef, undef, undef, undef, undef, undef, undef, undef, undef, undef, undef, undef, undef, undef, undef, undef, undef, undef, undef, undef, undef, undef, undef, undef, undef, undef, undef], defers := [] } W := by
      intro W g9 g10 g11 hHeld n9 n10 n11 d9_10 d9_11 d10_11
      have hBW := hHeld.2.2.2.2.2.2
      have hbig : w.heap.size + 3 ≤ W.heap.size := by
        have := World.block_lt_of_cell? _ _ hHeld.2.2.2.2.1
        simp at this
        omega
      rw [hR]
      refine wpAnyH_ready (rs := [2]) (by kernel_rfl) (by simp) ?_
      refine AllReadyH.cons (by simp only [List.getElem?_toArray, List.getElem?_cons_zero, List.getElem?_cons_succ]; rfl) (fun K hK => ?_) (AllReadyH.nil)
      go_simp
      refine (join_any _ _ _ _ _ (HL.out.after hBW)).mono ?_; rw [HJ.out]; rintro e w1 ⟨rfl, hb⟩
      go_wp2_with fail
      refine hK.out _ _ ⟨keepC hb hHeld.1, keepC hb hHeld.2.1, keepC hb hHeld.2.2.1, keepC hb hHeld.2.2.2.1, keepC hb hHeld.2.2.2.2.1, keepC hb hHeld.2.2.2.2.2.1, after hHeld.2.2.2.2.2.2 hb⟩ (fun hNext => ?_)
      clear hHeld hK K
      have hHeld := hNext
      clear hNext
      try simp only [Act.put, List.setIfInBounds_toArray, List.set_cons_zero, List.set_cons_succ]
      rw [← hR]
      exact st_1_91011_0 _ g9 g10 g11 hHeld (n9.below hb) (n10.below hb) (n11.below hb) d9_10 d9_11 d10_11
    have st_0_910_0 : ∀ (W : World) (g9 g10 : Nat), (fun w' => w'.cell? ⟨w.heap.size, 0, none⟩ = some (.int .i64 a0) ∧ w'.cell? ⟨w.heap.size, 1, none⟩ = some (.int .i64 a1) ∧ w'.cell? ⟨w.heap.size + 1, 0, none⟩ = some (.int .i64 b0) ∧ w'.cell? ⟨w.heap.size + 1, 1, none⟩ = some (.int .i64 b1) ∧ w'.cell? ⟨w.heap.size + 1 + 1, 0, none⟩ = some (.int .i64 c0) ∧ w'.cell? ⟨w.heap.size + 1 + 1, 1, none⟩ = some (.int .i64 c1) ∧ Below w.heap.size w w') W → New2 w W g9 0 0 → New2 w W g10 0 0 → ¬ g9 = g10 → R 7 #[true, true, false, true, true, false, true, true, true, false, true, true, false, false, false, false] { tmps := #[Value.agg #[Value.int IntKind.i64 a0, Value.int IntKind.i64 a1], Value.agg #[Value.int IntKind.i64 b0, Value.int IntKind.i64 b1], Value.agg #[Value.int IntKind.i64 c0, Value.int IntKind.i64 c1], Value.int IntKind.i64 v, Value.pointer (some ⟨w.heap.size, 0, none⟩), Value.pointer (some ⟨w.heap.size + 1, 0, none⟩), Value.pointer (some ⟨w.heap.size + 1 + 1, 0, none⟩), undef, Value.bool false, Value.pointer (some ⟨g9, 0, none⟩), Value.pointer (some ⟨g10, 0, none⟩), undef, Value.agg #[Value.int IntKind.i64 a0, Value.int IntKind.i64 a1], Value.agg #[Value.int IntKind.i64 b0, Value.int IntKind.i64 b1], undef, Value.agg #[Value.int IntKind.i64 a0, Value.int IntKind.i64 a1], Value.agg #[Value.int IntKind.i64 b0, Value.int IntKind.i64 b1], undef, Value.agg #[Value.int IntKind.i64 a0, Value.int IntKind.i64 a1], Value.agg #[Value.int IntKind.i64 b0, Value.int IntKind.i64 b1], Value.agg #[Value.int IntKind.i64 c0, Value.int IntKind.i64 c1], undef, undef, undef, undef, undef, undef, undef, undef, undef, undef, undef, undef, undef, undef, undef, undef, undef, undef, undef, undef, undef, undef, undef, undef, undef, undef, undef, undef, undef, undef, undef, undef, undef, undef, undef, undef, undef, undef, undef, undef, undef, undef, undef, undef, undef, undef, undef, undef, undef, undef, undef, undef, undef, undef, undef, undef, undef, undef, undef, undef, undef, undef, undef, undef, undef, undef, undef, undef, undef, undef, undef, undef, undef, undef, undef], defers := [] } W := by
      intro W g9 g10 hHeld n9 n10 d9_10
      have hBW := hHeld.2.2.2.2.2.2
      have hbig : w.heap.size + 3 ≤ W.heap.size := by
        have := World.block_lt_of_cell? _ _ hHeld.2.2.2.2.1
        simp at this
        omega
      rw [hR]
      refine wpAnyH_ready (rs := [2, 12]) (by kernel_rfl) (by simp) ?_
      refine AllReadyH.cons (by simp only [List.getElem?_toArray, List.getElem?_cons_zero, List.getElem?_cons_succ]; rfl) (fun K hK => ?_) (AllReadyH.cons (by simp only [List.getElem?_toArray, List.getElem?_cons_zero, List.getElem?_cons_succ]; rfl) (fun K hK => ?_) (AllReadyH.nil))
      · go_simp
        refine (join_any _ _ _ _ _ (HL.out.after hBW)).mono ?_; rw [HJ.out]; rintro e w1 ⟨rfl, hb⟩
        go_wp2_with fail
        refine hK.out _ _ ⟨keepC hb hHeld.1, keepC hb hHeld.2.1, keepC hb hHeld.2.2.1, keepC hb hHeld.2.2.2.1, keepC hb hHeld.2.2.2.2.1, keepC hb hHeld.2.2.2.2.2.1, after hHeld.2.2.2.2.2.2 hb⟩ (fun hNext => ?_)
        clear hHeld hK K
        have hHeld := hNext
        clear hNext
        try simp only [Act.put, List.setIfInBounds_toArray, List.set_cons_zero, List.set_cons_succ]
        rw [← hR]
        exact st_1_910_0 _ g9 g10 hHeld (n9.below hb) (n10.below hb) d9_10
      · go_simp
        go_wp2_with fail
        refine hK.out _ _ ⟨keepN _ hHeld.1, keepN _ hHeld.2.1, keepN _ hHeld.2.2.1, keepN _ hHeld.2.2.2.1, keepN _ hHeld.2.2.2.2.1, keepN _ hHeld.2.2.2.2.2.1, boxed hHeld.2.2.2.2.2.2 _⟩ (fun hNext => ?_)
        clear hHeld hK K
        have hHeld := hNext
        clear hNext
        try simp only [Act.put, List.setIfInBounds_toArray, List.set_cons_zero, List.set_cons_succ]
        rw [← hR]
        exact st_0_91011_0 _ g9 g10 _ hHeld (n9.alloc _) (n10.alloc _) (New2.made (by omega) 0 0) d9_10 (by have := n9.lt; omega) (by have := n10.lt; omega)
    have st_0_911_0 : ∀ (W : World) (g9 g11 : Nat), (fun w' => w'.cell? ⟨w.heap.size, 0, none⟩ = some (.int .i64 a0) ∧ w'.cell? ⟨w.heap.size, 1, none⟩ = some (.int .i64 a1) ∧ w'.cell? ⟨w.heap.size + 1, 0, none⟩ = some (.int .i64 b0) ∧ w'.cell? ⟨w.heap.size + 1, 1, none⟩ = some (.int .i64 b1) ∧ w'.cell? ⟨w.heap.size + 1 + 1, 0, none⟩ = some (.int .i64 c0) ∧ w'.cell? ⟨w.heap.size + 1 + 1, 1, none⟩ = some (.int .i64 c1) ∧ Below w.heap.size w w') W → New2 w W g9 0 0 → New2 w W g11 0 0 → ¬ g9 = g11 → R 7 #[true, true, false, true, true, false, true, true, true, false, true, false, true, false, false, false] { tmps := #[Value.agg #[Value.int IntKind.i64 a0, Value.int IntKind.i64 a1], Value.agg #[Value.int IntKind.i64 b0, Value.int IntKind.i64 b1], Value.agg #[Value.int IntKind.i64 c0, Value.int IntKind.i64 c1], Value.int IntKind.i64 v, Value.pointer (some ⟨w.heap.size, 0, none⟩), Value.pointer (some ⟨w.heap.size + 1, 0, none⟩), Value.pointer (some ⟨w.heap.size + 1 + 1, 0, none⟩), undef, Value.bool false, Value.pointer (some ⟨g9, 0, none⟩), undef, Value.pointer (some ⟨g11, 0, none⟩), Value.agg #[Value.int IntKind.i64 a0, Value.int IntKind.i64 a1], Value.agg #[Value.int IntKind.i64 b0, Value.int IntKind.i64 b1], undef, Value.agg #[Value.int IntKind.i64 a0, Value.int IntKind.i64 a1], Value.agg #[Value.int IntKind.i64 b0, Value.int IntKind.i64 b1], undef, Value.agg #[Value.int IntKind.i64 a0, Value.int IntKind.i64 a1], Value.agg #[Value.int IntKind.i64 b0, Value.int IntKind.i64 b1], Value.agg #[Value.int IntKind.i64 c0, Value.int IntKind.i64 c1], undef, undef, undef, undef, undef, undef, undef, undef, undef, undef, undef, undef, undef, undef, undef, undef, undef, undef, undef, undef, undef, undef, undef, undef, undef, undef, undef, undef, undef, undef, undef, undef, undef, undef, undef, undef, undef, undef, undef, undef, undef, undef, undef, undef, undef, undef, undef, undef, undef, undef, undef, undef, undef, undef, undef, undef, undef, undef, undef, undef, undef, undef, undef, undef, undef, undef, undef, undef, undef, undef, undef, undef, undef, undef, undef], defers := [] } W := by
      intro W g9 g11 hHeld n9 n11 d9_11
      have hBW := hHeld.2.2.2.2.2.2
      have hbig : w.heap.size + 3 ≤ W.heap.size := by
        have := World.block_lt_of_cell? _ _ hHeld.2.2.2.2.1
        simp at this
        omega
      rw [hR]
      refine wpAnyH_ready (rs := [2, 11]) (by kernel_rfl) (by simp) ?_
      refine AllReadyH.cons (by simp only [List.getElem?_toArray, List.getElem?_cons_zero, List.getElem?_cons_succ]; rfl) (fun K hK => ?_) (AllReadyH.cons (by simp only [List.getElem?_toArray, List.getElem?_cons_zero, List.getElem?_cons_succ]; rfl) (fun K hK => ?_) (AllReadyH.nil))
      · go_simp
        refine (join_any _ _ _ _ _ (HL.out.after hBW)).mono ?_; rw [HJ.out]; rintro e w1 ⟨rfl, hb⟩
        go_wp2_with fail
        refine hK.out _ _ ⟨keepC hb hHeld.1, keepC hb hHeld.2.1, keepC hb hHeld.2.2.1, keepC hb hHeld.2.2.2.1, keepC hb hHeld.2.2.2.2.1, keepC hb hHeld.2.2.2.2.2.1, after hHeld.2.2.2.2.2.2 hb⟩ (fun hNext => ?_)
        clear hHeld hK K
        have hHeld := hNext
        clear hNext
        try simp only [Act.put, List.setIfInBounds_toArray, List.set_cons_zero, List.set_cons_succ]
        rw [← hR]
        exact st_1_911_0 _ g9 g11 hHeld (n9.below hb) (n11.below hb) d9_11
      · go_simp
        go_wp2_with fail
        refine hK.out _ _ ⟨keepN _ hHeld.1, keepN _ hHeld.2.1, keepN _ hHeld.2.2.1, keepN _ hHeld.2.2.2.1, keepN _ hHeld.2.2.2.2.1, keepN _ hHeld.2.2.2.2.2.1, boxed hHeld.2.2.2.2.2.2 _⟩ (fun hNext => ?_)
        clear hHeld hK K
        have hHeld := hNext
        clear hNext
        try simp only [Act.put, List.setIfInBounds_toArray, List.set_cons_zero, List.set_cons_succ]
        rw [← hR]
        exact st_0_91011_0 _ g9 _ g11 hHeld (n9.alloc _) (New2.made (by omega) 0 0) (n11.alloc _) (by have := n9.lt; omega) d9_11 (by have := n11.lt; omega)
    have st_0_1011_0 : ∀ (W : World) (g10 g11 : Nat), (fun w' => w'.cell? ⟨w.heap.size, 0, none⟩ = some (.int .i64 a0) ∧ w'.cell? ⟨w.heap.size, 1, none⟩ = some (.int .i64 a1) ∧ w'.cell? ⟨w.heap.size + 1, 0, none⟩ = some (.int .i64 b0) ∧ w'.cell? ⟨w.heap.size + 1, 1, none⟩ = some (.int .i64 b1) ∧ w'.cell? ⟨w.heap.size + 1 + 1, 0, none⟩ = some (.int .i64 c0) ∧ w'.cell? ⟨w.heap.size + 1 + 1, 1, none⟩ = some (.int .i64 c1) ∧ Below w.heap.size w w') W → New2 w W g10 0 0 → New2 w W g11 0 0 → ¬ g10 = g11 → R 7 #[true, true, false, true, true, false, true, true, true, false, false, true, true, false, false, false] { tmps := #[Value.agg #[Value.int IntKind.i64 a0, Value.int IntKind.i64 a1], Value.agg #[Value.int IntKind.i64 b0, Value.int IntKind.i64 b1], Value.agg #[Value.int IntKind.i64 c0, Value.int IntKind.i64 c1], Value.int IntKind.i64 v, Value.pointer (some ⟨w.heap.size, 0, none⟩), Value.pointer (some ⟨w.heap.size + 1, 0, none⟩), Value.pointer (some ⟨w.heap.size + 1 + 1, 0, none⟩), undef, Value.bool false, undef, Value.pointer (some ⟨g10, 0, none⟩), Value.pointer (some ⟨g11, 0, none⟩), Value.agg #[Value.int IntKind.i64 a0, Value.int IntKind.i64 a1], Value.agg #[Value.int IntKind.i64 b0, Value.int IntKind.i64 b1], undef, Value.agg #[Value.int IntKind.i64 a0, Value.int IntKind.i64 a1], Value.agg #[Value.int IntKind.i64 b0, Value.int IntKind.i64 b1], undef, Value.agg #[Value.int IntKind.i64 a0, Value.int IntKind.i64 a1], Value.agg #[Value.int IntKind.i64 b0, Value.int IntKind.i64 b1], Value.agg #[Value.int IntKind.i64 c0, Value.int IntKind.i64 c1], undef, undef, undef, undef, undef, undef, undef, undef, undef, undef, undef, undef, undef, undef, undef, undef, undef, undef, undef, undef, undef, undef, undef, undef, undef, undef, undef, undef, undef, undef, undef, undef, undef, undef, undef, undef, undef, undef, undef, undef, undef, undef, undef, undef, undef, undef, undef, undef, undef, undef, undef, undef, undef, undef, undef, undef, undef, undef, undef, undef, undef, undef, undef, undef, undef, undef, undef, undef, undef, undef, undef, undef, undef, undef, undef], defers := [] } W := by
      intro W g10 g11 hHeld n10 n11 d10_11
      have hBW := hHeld.2.2.2.2.2.2
      have hbig : w.heap.size + 3 ≤ W.heap.size := by
        have := World.block_lt_of_cell? _ _ hHeld.2.2.2.2.1
        simp at this
        omega
      rw [hR]
      refine wpAnyH_ready (rs := [2, 10]) (by kernel_rfl) (by simp) ?_
      refine AllReadyH.cons (by simp only [List.getElem?_toArray, List.getElem?_cons_zero, List.getElem?_cons_succ]; rfl) (fun K hK => ?_) (AllReadyH.cons (by simp only [List.getElem?_toArray, List.getElem?_cons_zero, List.getElem?_cons_succ]; rfl) (fun K hK => ?_) (AllReadyH.nil))
      · go_simp
        refine (join_any _ _ _ _ _ (HL.out.after hBW)).mono ?_; rw [HJ.out]; rintro e w1 ⟨rfl, hb⟩
        go_wp2_with fail
        refine hK.out _ _ ⟨keepC hb hHeld.1, keepC hb hHeld.2.1, keepC hb hHeld.2.2.1, keepC hb hHeld.2.2.2.1, keepC hb hHeld.2.2.2.2.1, keepC hb hHeld.2.2.2.2.2.1, after hHeld.2.2.2.2.2.2 hb⟩ (fun hNext => ?_)
        clear hHeld hK K
        have hHeld := hNext
        clear hNext
        try simp only [Act.put, List.setIfInBounds_toArray, List.set_cons_zero, List.set_cons_succ]
        rw [← hR]
        exact st_1_1011_0 _ g10 g11 hHeld (n10.below hb) (n11.below hb) d10_11
      · go_simp
        go_wp2_with fail
        refine hK.out _ _ ⟨keepN _ hHeld.1, keepN _ hHeld.2.1, keepN _ hHeld.2.2.1, keepN _ hHeld.2.2.2.1, keepN _ hHeld.2.2.2.2.1, keepN _ hHeld.2.2.2.2.2.1, boxed hHeld.2.2.2.2.2.2 _⟩ (fun hNext => ?_)
        clear hHeld hK K
        have hHeld := hNext
        clear hNext
        try simp only [Act.put, List.setIfInBounds_toArray, List.set_cons_zero, List.set_cons_succ]
        rw [← hR]
        exact st_0_91011_0 _ _ g10 g11 hHeld (New2.made (by omega) 0 0) (n10.alloc _) (n11.alloc _) (by have := n10.lt; omega) (by have := n11.lt; omega) d10_11
    have st_0_9_0 : ∀ (W : World) (g9 : Nat), (fun w' => w'.cell? ⟨w.heap.size, 0, none⟩ = some (.int .i64 a0) ∧ w'.cell? ⟨w.heap.size, 1, none⟩ = some (.int .i64 a1) ∧ w'.cell? ⟨w.heap.size + 1, 0, none⟩ = some (.int .i64 b0) ∧ w'.cell? ⟨w.heap.size + 1, 1, none⟩ = some (.int .i64 b1) ∧ w'.cell? ⟨w.heap.size + 1 + 1, 0, none⟩ = some (.int .i64 c0) ∧ w'.cell? ⟨w.heap.size + 1 + 1, 1, none⟩ = some (.int .i64 c1) ∧ Below w.heap.size w w') W → New2 w W g9 0 0 → R 8 #[true, true, false, true, true, false, true, true, true, false, true, false, false, false, false, false] { tmps := #[Value.agg #[Value.int IntKind.i64 a0, Value.int IntKind.i64 a1], Value.agg #[Value.int IntKind.i64 b0, Value.int IntKind.i64 b1], Value.agg #[Value.int IntKind.i64 c0, Value.int IntKind.i64 c1], Value.int IntKind.i64 v, Value.pointer (some ⟨w.heap.size, 0, none⟩), Value.pointer (some ⟨w.heap.size + 1, 0, none⟩), Value.pointer (some ⟨w.heap.size + 1 + 1, 0, none⟩), undef, Value.bool false, Value.pointer (some ⟨g9, 0, none⟩), undef, undef, Value.agg #[Value.int IntKind.i64 a0, Value.int IntKind.i64 a1], Value.agg #[Value.int IntKind.i64 b0, Value.int IntKind.i64 b1], undef, Value.agg #[Value.int IntKind.i64 a0, Value.int IntKind.i64 a1], Value.agg #[Value.int IntKind.i64 b0, Value.int IntKind.i64 b1], undef, Value.agg #[Value.int IntKind.i64 a0, Value.int IntKind.i64 a1], Value.agg #[Value.int IntKind.i64 b0, Value.int IntKind.i64 b1], Value.agg #[Value.int IntKind.i64 c0, Value.int IntKind.i64 c1], undef, undef, undef, undef, undef, undef, undef, undef, undef, undef, undef, undef, undef, undef, undef, undef, undef, undef, undef, undef, undef, undef, undef, undef, undef, undef, undef, undef, undef, undef, undef, undef, undef, undef, undef, undef, undef, undef, undef, undef, undef, undef, undef, undef, undef, undef, undef, undef, undef, undef, undef, undef, undef, undef, undef, undef, undef, undef, undef, undef, undef, undef, undef, undef, undef, undef, undef, undef, undef, undef, undef, undef, undef, undef, undef], defers := [] } W := by
      intro W g9 hHeld n9
      have hBW := hHeld.2.2.2.2.2.2
      have hbig : w.heap.size + 3 ≤ W.heap.size := by
        have := World.block_lt_of_cell? _ _ hHeld.2.2.2.2.1
        simp at this
        omega
      rw [hR]
      refine wpAnyH_ready (rs := [2, 11, 12]) (by kernel_rfl) (by simp) ?_
      refine AllReadyH.cons (by simp only [List.getElem?_toArray, List.getElem?_cons_zero, List.getElem?_cons_succ]; rfl) (fun K hK => ?_) (AllReadyH.cons (by simp only [List.getElem?_toArray, List.getElem?_cons_zero, List.getElem?_cons_succ]; rfl) (fun K hK => ?_) (AllReadyH.cons (by simp only [List.getElem?_toArray, List.getElem?_cons_zero, List.getElem?_cons_succ]; rfl) (fun K hK => ?_) (AllReadyH.nil)))
      · go_simp
        refine (join_any _ _ _ _ _ (HL.out.after hBW)).mono ?_; rw [HJ.out]; rintro e w1 ⟨rfl, hb⟩
        go_wp2_with fail
        refine hK.out _ _ ⟨keepC hb hHeld.1, keepC hb hHeld.2.1, keepC hb hHeld.2.2.1, keepC hb hHeld.2.2.2.1, keepC hb hHeld.2.2.2.2.1, keepC hb hHeld.2.2.2.2.2.1, after hHeld.2.2.2.2.2.2 hb⟩ (fun hNext => ?_)
        clear hHeld hK K
        have hHeld := hNext
        clear hNext
        try simp only [Act.put, List.setIfInBounds_toArray, List.set_cons_zero, List.set_cons_succ]
        rw [← hR]
        exact st_1_9_0 _ g9 hHeld (n9.below hb)
      · go_simp
        go_wp2_with fail
        refine hK.out _ _ ⟨keepN _ hHeld.1, keepN _ hHeld.2.1, keepN _ hHeld.2.2.1, keepN _ hHeld.2.2.2.1, keepN _ hHeld.2.2.2.2.1, keepN _ hHeld.2.2.2.2.2.1, boxed hHeld.2.2.2.2.2.2 _⟩ (fun hNext => ?_)
        clear hHeld hK K
        have hHeld := hNext
        clear hNext
        try simp only [Act.put, List.setIfInBounds_toArray, List.set_cons_zero, List.set_cons_succ]
        rw [← hR]
        exact st_0_910_0 _ g9 _ hHeld (n9.alloc _) (New2.made (by omega) 0 0) (by have := n9.lt; omega)
      · go_simp
        go_wp2_with fail
        refine hK.out _ _ ⟨keepN _ hHeld.1, keepN _ hHeld.2.1, keepN _ hHeld.2.2.1, keepN _ hHeld.2.2.2.1, keepN _ hHeld.2.2.2.2.1, keepN _ hHeld.2.2.2.2.2.1, boxed hHeld.2.2.2.2.2.2 _⟩ (fun hNext => ?_)
        clear hHeld hK K
        have hHeld := hNext
        clear hNext
        try simp only [Act.put, List.setIfInBounds_toArray, List.set_cons_zero, List.set_cons_succ]
        rw [← hR]
        exact st_0_911_0 _ g9 _ hHeld (n9.alloc _) (New2.made (by omega) 0 0) (by have := n9.lt; omega)
    have st_0_10_0 : ∀ (W : World) (g10 : Nat), (fun w' => w'.cell? ⟨w.heap.size, 0, none⟩ = some (.int .i64 a0) ∧ w'.cell? ⟨w.heap.size, 1, none⟩ = some (.int .i64 a1) ∧ w'.cell? ⟨w.heap.size + 1, 0, none⟩ = some (.int .i64 b0) ∧ w'.cell? ⟨w.heap.size + 1, 1, none⟩ = some (.int .i64 b1) ∧ w'.cell? ⟨w.heap.size + 1 + 1, 0, none⟩ = some (.int .i64 c0) ∧ w'.cell? ⟨w.heap.size + 1 + 1, 1, none⟩ = some (.int .i64 c1) ∧ Below w.heap.size w w') W → New2 w W g10 0 0 → R 8 #[true, true, false, true, true, false, true, true, true, false, false, true, false, false, false, false] { tmps := #[Value.agg #[Value.int IntKind.i64 a0, Value.int IntKind.i64 a1], Value.agg #[Value.int IntKind.i64 b0, Value.int IntKind.i64 b1], Value.agg #[Value.int IntKind.i64 c0, Value.int IntKind.i64 c1], Value.int IntKind.i64 v, Value.pointer (some ⟨w.heap.size, 0, none⟩), Value.pointer (some ⟨w.heap.size + 1, 0, none⟩), Value.pointer (some ⟨w.heap.size + 1 + 1, 0, none⟩), undef, Value.bool false, undef, Value.pointer (some ⟨g10, 0, none⟩), undef, Value.agg #[Value.int IntKind.i64 a0, Value.int IntKind.i64 a1], Value.agg #[Value.int IntKind.i64 b0, Value.int IntKind.i64 b1], undef, Value.agg #[Value.int IntKind.i64 a0, Value.int IntKind.i64 a1], Value.agg #[Value.int IntKind.i64 b0, Value.int IntKind.i64 b1], undef, Value.agg #[Value.int IntKind.i64 a0, Value.int IntKind.i64 a1], Value.agg #[Value.int IntKind.i64 b0, Value.int IntKind.i64 b1], Value.agg #[Value.int IntKind.i64 c0, Value.int IntKind.i64 c1], undef, undef, undef, undef, undef, undef, undef, undef, undef, undef, undef, undef, undef, undef, undef, undef, undef, undef, undef, undef, undef, undef, undef, undef, undef, undef, undef, undef, undef, undef, undef, undef, undef, undef, undef, undef, undef, undef, undef, undef, undef, undef, undef, undef, undef, undef, undef, undef, undef, undef, undef, undef, undef, undef, undef, undef, undef, undef, undef, undef, undef, undef, undef, undef, undef, undef, undef, undef, undef, undef, undef, undef, undef, undef, undef], defers := [] } W := by
      intro W g10 hHeld n10
      have hBW := hHeld.2.2.2.2.2.2
      have hbig : w.heap.size + 3 ≤ W.heap.size := by
        have := World.block_lt_of_cell? _ _ hHeld.2.2.2.2.1
        simp at this
        omega
      rw [hR]
      refine wpAnyH_ready (rs := [2, 10, 12]) (by kernel_rfl) (by simp) ?_
      refine AllReadyH.cons (by simp only [List.getElem?_toArray, List.getElem?_cons_zero, List.getElem?_cons_succ]; rfl) (fun K hK => ?_) (AllReadyH.cons (by simp only [List.getElem?_toArray, List.getElem?_cons_zero, List.getElem?_cons_succ]; rfl) (fun K hK => ?_) (AllReadyH.cons (by simp only [List.getElem?_toArray, List.getElem?_cons_zero, List.getElem?_cons_succ]; rfl) (fun K hK => ?_) (AllReadyH.nil)))
      · go_simp
        refine (join_any _ _ _ _ _ (HL.out.after hBW)).mono ?_; rw [HJ.out]; rintro e w1 ⟨rfl, hb⟩
        go_wp2_with fail
        refine hK.out _ _ ⟨keepC hb hHeld.1, keepC hb hHeld.2.1, keepC hb hHeld.2.2.1, keepC hb hHeld.2.2.2.1, keepC hb hHeld.2.2.2.2.1, keepC hb hHeld.2.2.2.2.2.1, after hHeld.2.2.2.2.2.2 hb⟩ (fun hNext => ?_)
        clear hHeld hK K
        have hHeld := hNext
        clear hNext
        try simp only [Act.put, List.setIfInBounds_toArray, List.set_cons_zero, List.set_cons_succ]
        rw [← hR]
        exact st_1_10_0 _ g10 hHeld (n10.below hb)
      · go_simp
        go_wp2_with fail
        refine hK.out _ _ ⟨keepN _ hHeld.1, keepN _ hHeld.2.1, keepN _ hHeld.2.2.1, keepN _ hHeld.2.2.2.1, keepN _ hHeld.2.2.2.2.1, keepN _ hHeld.2.2.2.2.2.1, boxed hHeld.2.2.2.2.2.2 _⟩ (fun hNext => ?_)
        clear hHeld hK K
        have hHeld := hNext
        clear hNext
        try simp only [Act.put, List.setIfInBounds_toArray, List.set_cons_zero, List.set_cons_succ]
        rw [← hR]
        exact st_0_910_0 _ _ g10 hHeld (New2.made (by omega) 0 0) (n10.alloc _) (by have := n10.lt; omega)
      · go_simp
        go_wp2_with fail
        refine hK.out _ _ ⟨keepN _ hHeld.1, keepN _ hHeld.2.1, keepN _ hHeld.2.2.1, keepN _ hHeld.2.2.2.1, keepN _ hHeld.2.2.2.2.1, keepN _ hHeld.2.2.2.2.2.1, boxed hHeld.2.2.2.2.2.2 _⟩ (fun hNext => ?_)
        clear hHeld hK K
        have hHeld := hNext
        clear hNext
        try simp only [Act.put, List.setIfInBounds_toArray, List.set_cons_zero, List.set_cons_succ]
        rw [← hR]
        exact st_0_1011_0 _ g10 _ hHeld (n10.alloc _) (New2.made (by omega) 0 0) (by have := n10.lt; omega)
    have st_0_11_0 : ∀ (W : World) (g11 : Nat), (fun w' => w'.cell? ⟨w.heap.size, 0, none⟩ = some (.int .i64 a0) ∧ w'.cell? ⟨w.heap.size, 1, none⟩ = some (.int .i64 a1) ∧ w'.cell? ⟨w.heap.size + 1, 0, none⟩ = some (.int .i64 b0) ∧ w'.cell? ⟨w.heap.size + 1, 1, none⟩ = some (.int .i64 b1) ∧ w'.cell? ⟨w.heap.size + 1 + 1, 0, none⟩ = some (.int .i64 c0) ∧ w'.cell? ⟨w.heap.size + 1 + 1, 1, none⟩ = some (.int .i64 c1) ∧ Below w.heap.size w w') W → New2 w W g11 0 0 → R 8 #[true, true, false, true, true, false, true, true, true, false, false, false, true, false, false, false] { tmps := #[Value.agg #[Value.int IntKind.i64 a0, Value.int IntKind.i64 a1], Value.agg #[Value.int IntKind.i64 b0, Value.int IntKind.i64 b1], Value.agg #[Value.int IntKind.i64 c0, Value.int IntKind.i64 c1], Value.int IntKind.i64 v, Value.pointer (some ⟨w.heap.size, 0, none⟩), Value.pointer (some ⟨w.heap.size + 1, 0, none⟩), Value.pointer (some ⟨w.heap.size + 1 + 1, 0, none⟩), undef, Value.bool false, undef, undef, Value.pointer (some ⟨g11, 0, none⟩), Value.agg #[Value.int IntKind.i64 a0, Value.int IntKind.i64 a1], Value.agg #[Value.int IntKind.i64 b0, Value.int IntKind.i64 b1], undef, Value.agg #[Value.int IntKind.i64 a0, Value.int IntKind.i64 a1], Value.agg #[Value.int IntKind.i64 b0, Value.int IntKind.i64 b1], undef, Value.agg #[Value.int IntKind.i64 a0, Value.int IntKind.i64 a1], Value.agg #[Value.int IntKind.i64 b0, Value.int IntKind.i64 b1], Value.agg #[Value.int IntKind.i64 c0, Value.int IntKind.i64 c1], undef, undef, undef, undef, undef, undef, undef, undef, undef, undef, undef, undef, undef, undef, undef, undef, undef, undef, undef, undef, undef, undef, undef, undef, undef, undef, undef, undef, undef, undef, undef, undef, undef, undef, undef, undef, undef, undef, undef, undef, undef, undef, undef, undef, undef, undef, undef, undef, undef, undef, undef, undef, undef, undef, undef, undef, undef, undef, undef, undef, undef, undef, undef, undef, undef, undef, undef, undef, undef, undef, undef, undef, undef, undef, undef], defers := [] } W := by
      intro W g11 hHeld n11
      have hBW := hHeld.2.2.2.2.2.2
      have hbig : w.heap.size + 3 ≤ W.heap.size := by
        have := World.block_lt_of_cell? _ _ hHeld.2.2.2.2.1
        simp at this
        omega
      rw [hR]
      refine wpAnyH_ready (rs := [2, 10, 11]) (by kernel_rfl) (by simp) ?_
      refine AllReadyH.cons (by simp only [List.getElem?_toArray, List.getElem?_cons_zero, List.getElem?_cons_succ]; rfl) (fun K hK => ?_) (AllReadyH.cons (by simp only [List.getElem?_toArray, List.getElem?_cons_zero, List.getElem?_cons_succ]; rfl) (fun K hK => ?_) (AllReadyH.cons (by simp only [List.getElem?_toArray, List.getElem?_cons_zero, List.getElem?_cons_succ]; rfl) (fun K hK => ?_) (AllReadyH.nil)))
      · go_simp
        refine (join_any _ _ _ _ _ (HL.out.after hBW)).mono ?_; rw [HJ.out]; rintro e w1 ⟨rfl, hb⟩
        go_wp2_with fail
        refine hK.out _ _ ⟨keepC hb hHeld.1, keepC hb hHeld.2.1, keepC hb hHeld.2.2.1, keepC hb hHeld.2.2.2.1, keepC hb hHeld.2.2.2.2.1, keepC hb hHeld.2.2.2.2.2.1, after hHeld.2.2.2.2.2.2 hb⟩ (fun hNext => ?_)
        clear hHeld hK K
        have hHeld := hNext
        clear hNext
        try simp only [Act.put, List.setIfInBounds_toArray, List.set_cons_zero, List.set_cons_succ]
        rw [← hR]
        exact st_1_11_0 _ g11 hHeld (n11.below hb)
      · go_simp
        go_wp2_with fail
        refine hK.out _ _ ⟨keepN _ hHeld.1, keepN _ hHeld.2.1, keepN _ hHeld.2.2.1, keepN _ hHeld.2.2.2.1, keepN _ hHeld.2.2.2.2.1, keepN _ hHeld.2.2.2.2.2.1, boxed hHeld.2.2.2.2.2.2 _⟩ (fun hNext => ?_)
        clear hHeld hK K
        have hHeld := hNext
        clear hNext
        try simp only [Act.put, List.setIfInBounds_toArray, List.set_cons_zero, List.set_cons_succ]
        rw [← hR]
        exact st_0_911_0 _ _ g11 hHeld (New2.made (by omega) 0 0) (n11.alloc _) (by have := n11.lt; omega)
      · go_simp
        go_wp2_with fail
        refine hK.out _ _ ⟨keepN _ hHeld.1, keepN _ hHeld.2.1, keepN _ hHeld.2.2.1, keepN _ hHeld.2.2.2.1, keepN _ hHeld.2.2.2.2.1, keepN _ hHeld.2.2.2.2.2.1, boxed hHeld.2.2.2.2.2.2 _⟩ (fun hNext => ?_)
        clear hHeld hK K
        have hHeld := hNext
        clear hNext
        try simp only [Act.put, List.setIfInBounds_toArray, List.set_cons_zero, List.set_cons_succ]
        rw [← hR]
        exact st_0_1011_0 _ _ g11 hHeld (New2.made (by omega) 0 0) (n11.alloc _) (by have := n11.lt; omega)
    have st_0__0 : ∀ (W : World), (fun w' => w'.cell? ⟨w.heap.size, 0, none⟩ = some (.int .i64 a0) ∧ w'.cell? ⟨w.heap.size, 1, none⟩ = some (.int .i64 a1) ∧ w'.cell? ⟨w.heap.size + 1, 0, none⟩ = some (.int .i64 b0) ∧ w'.cell? ⟨w.heap.size + 1, 1, none⟩ = some (.int .i64 b1) ∧ w'.cell? ⟨w.heap.size + 1 + 1, 0, none⟩ = some (.int .i64 c0) ∧ w'.cell? ⟨w.heap.size + 1 + 1, 1, none⟩ = some (.int .i64 c1) ∧ Below w.heap.size w w') W → R 9 #[true, true, false, true, true, false, true, true, true, false, false, false, false, false, false, false] { tmps := #[Value.agg #[Value.int IntKind.i64 a0, Value.int IntKind.i64 a1], Value.agg #[Value.int IntKind.i64 b0, Value.int IntKind.i64 b1], Value.agg #[Value.int IntKind.i64 c0, Value.int IntKind.i64 c1], Value.int IntKind.i64 v, Value.pointer (some ⟨w.heap.size, 0, none⟩), Value.pointer (some ⟨w.heap.size + 1, 0, none⟩), Value.pointer (some ⟨w.heap.size + 1 + 1, 0, none⟩), undef, Value.bool false, undef, undef, undef, Value.agg #[Value.int IntKind.i64 a0, Value.int IntKind.i64 a1], Value.agg #[Value.int IntKind.i64 b0, Value.int IntKind.i64 b1], undef, Value.agg #[Value.int IntKind.i64 a0, Value.int IntKind.i64 a1], Value.agg #[Value.int IntKind.i64 b0, Value.int IntKind.i64 b1], undef, Value.agg #[Value.int IntKind.i64 a0, Value.int IntKind.i64 a1], Value.agg #[Value.int IntKind.i64 b0, Value.int IntKind.i64 b1], Value.agg #[Value.int IntKind.i64 c0, Value.int IntKind.i64 c1], undef, undef, undef, undef, undef, undef, undef, undef, undef, undef, undef, undef, undef, undef, undef, undef, undef, undef, undef, undef, undef, undef, undef, undef, undef, undef, undef, undef, undef, undef, undef, undef, undef, undef, undef, undef, undef, undef, undef, undef, undef, undef, undef, undef, undef, undef, undef, undef, undef, undef, undef, undef, undef, undef, undef, undef, undef, undef, undef, undef, undef, undef, undef, undef, undef, undef, undef, undef, undef, undef, undef, undef, undef, undef, undef], defers := [] } W := by
      intro W  hHeld 
      have hBW := hHeld.2.2.2.2.2.2
      have hbig : w.heap.size + 3 ≤ W.heap.size := by
        have := World.block_lt_of_cell? _ _ hHeld.2.2.2.2.1
        simp at this
        omega
      rw [hR]
      refine wpAnyH_ready (rs := [2, 10, 11, 12]) (by kernel_rfl) (by simp) ?_
      refine AllReadyH.cons (by simp only [List.getElem?_toArray, List.getElem?_cons_zero, List.getElem?_cons_succ]; rfl) (fun K hK => ?_) (AllReadyH.cons (by simp only [List.getElem?_toArray, List.getElem?_cons_zero, List.getElem?_cons_succ]; rfl) (fun K hK => ?_) (AllReadyH.cons (by simp only [List.getElem?_toArray, List.getElem?_cons_zero, List.getElem?_cons_succ]; rfl) (fun K hK => ?_) (AllReadyH.cons (by simp only [List.getElem?_toArray, List.getElem?_cons_zero, List.getElem?_cons_succ]; rfl) (fun K hK => ?_) (AllReadyH.nil))))
      · go_simp
        refine (join_any _ _ _ _ _ (HL.out.after hBW)).mono ?_; rw [HJ.out]; rintro e w1 ⟨rfl, hb⟩
        go_wp2_with fail
        refine hK.out _ _ ⟨keepC hb hHeld.1, keepC hb hHeld.2.1, keepC hb hHeld.2.2.1, keepC hb hHeld.2.2.2.1, keepC hb hHeld.2.2.2.2.1, keepC hb hHeld.2.2.2.2.2.1, after hHeld.2.2.2.2.2.2 hb⟩ (fun hNext => ?_)
        clear hHeld hK K
        have hHeld := hNext
        clear hNext
        try simp only [Act.put, List.setIfInBounds_toArray, List.set_cons_zero, List.set_cons_succ]
        rw [← hR]
        exact st_1__0 _  hHeld
      · go_simp
        go_wp2_with fail
        refine hK.out _ _ ⟨keepN _ hHeld.1, keepN _ hHeld.2.1, keepN _ hHeld.2.2.1, keepN _ hHeld.2.2.2.1, keepN _ hHeld.2.2.2.2.1, keepN _ hHeld.2.2.2.2.2.1, boxed hHeld.2.2.2.2.2.2 _⟩ (fun hNext => ?_)
        clear hHeld hK K
        have hHeld := hNext
        clear hNext
        try simp only [Act.put, List.setIfInBounds_toArray, List.set_cons_zero, List.set_cons_succ]
        rw [← hR]
        exact st_0_9_0 _ _ hHeld (New2.made (by omega) 0 0)
      · go_simp
        go_wp2_with fail
        refine hK.out _ _ ⟨keepN _ hHeld.1, keepN _ hHeld.2.1, keepN _ hHeld.2.2.1, keepN _ hHeld.2.2.2.1, keepN _ hHeld.2.2.2.2.1, keepN _ hHeld.2.2.2.2.2.1, boxed hHeld.2.2.2.2.2.2 _⟩ (fun hNext => ?_)
        clear hHeld hK K
        have hHeld := hNext
        clear hNext
        try simp only [Act.put, List.setIfInBounds_toArray, List.set_cons_zero, List.set_cons_succ]
        rw [← hR]
        exact st_0_10_0 _ _ hHeld (New2.made (by omega) 0 0)
      · go_simp
        go_wp2_with fail
        refine hK.out _ _ ⟨keepN _ hHeld.1, keepN _ hHeld.2.1, keepN _ hHeld.2.2.1, keepN _ hHeld.2.2.2.1, keepN _ hHeld.2.2.2.2.1, keepN _ hHeld.2.2.2.2.2.1, boxed hHeld.2.2.2.2.2.2 _⟩ (fun hNext => ?_)
        clear hHeld hK K
        have hHeld := hNext
        clear hNext
        try simp only [Act.put, List.setIfInBounds_toArray, List.set_cons_zero, List.set_cons_succ]
        rw [← hR]
        exact st_0_11_0 _ _ hHeld (New2.made (by omega) 0 0)
    exact st_0__0 _ hHeld

  case rest =>
    obtain ⟨g9, g10, g11, rfl, rfl, rfl, hJ, n9, n10, n11⟩ := hcut
    have HJ2 := Lib.hid hJ
    obtain ⟨q0, q1, q2, q3, q4, q5, _⟩ := hJ
    obtain ⟨_, _, q6, q7, _, _⟩ := n9
    obtain ⟨_, _, q8, q9, _, _⟩ := n10
    obtain ⟨_, _, q10, q11, _, _⟩ := n11
    obtain ⟨f1, f2, f3, f4, f5, f6, f7, f8, f9⟩ := HF.out
    have F1 := Lib.hid f1
    have F2 := Lib.hid f2
    have F3 := Lib.hid f3
    have F4 := Lib.hid f4
    have F5 := Lib.hid f5
    have F6 := Lib.hid f6
    have F7 := Lib.hid f7
    have F8 := Lib.hid f8
    have F9 := Lib.hid f9
    clear f1 f2 f3 f4 f5 f6 f7 f8 f9 HJ HM HX HF
    go_wp2_with fail
    refine wp_region_held_drew (S := fun w' => w'.cell? ⟨w.heap.size, 0, none⟩ = some (.int .i64 a0) ∧ w'.cell? ⟨w.heap.size, 1, none⟩ = some (.int .i64 a1) ∧ w'.cell? ⟨w.heap.size + 1, 0, none⟩ = some (.int .i64 b0) ∧ w'.cell? ⟨w.heap.size + 1, 1, none⟩ = some (.int .i64 b1) ∧ w'.cell? ⟨w.heap.size + 1 + 1, 0, none⟩ = some (.int .i64 c0) ∧ w'.cell? ⟨w.heap.size + 1 + 1, 1, none⟩ = some (.int .i64 c1) ∧ w'.cell? ⟨g9, 0, none⟩ = some (.int .i64 j0) ∧ w'.cell? ⟨g9, 1, none⟩ = some (.int .i64 j1) ∧ w'.cell? ⟨g10, 0, none⟩ = some (.int .i64 m0) ∧ w'.cell? ⟨g10, 1, none⟩ = some (.int .i64 m1) ∧ w'.cell? ⟨g11, 0, none⟩ = some (.int .i64 x0) ∧ w'.cell? ⟨g11, 1, none⟩ = some (.int .i64 x1)) (by kernel_rfl) ?_ (fun hHeld => ?_)
    · (try dsimp only)
      (first | (go_split_ands; refine ⟨?_, ?_, ?_, ?_, ?_, ?_, ?_, ?_, ?_, ?_, ?_, ?_⟩ <;> first | assumption | exact keepC (by assumption) (by assumption)) | (refine ⟨?_, ?_, ?_, ?_, ?_, ?_, ?_, ?_, ?_, ?_, ?_, ?_⟩ <;> first | assumption | go_cell))
    have hB : Below wc.heap.size wc wc.drew := by go_grown
    refine wpAnyH_take (i := 0) (v := ?_) (by simp only [List.getElem?_toArray, List.getElem?_cons_zero, List.getElem?_cons_succ]; rfl) (by kernel_rfl) (by kernel_rfl) (by kernel_rfl) (by exact fun _ _ _ h => h) (Or.inl ⟨by rfl, ?_⟩) (by assumption) ?_
    rotate_left
    · (intro w' hSw; (try dsimp only at hSw); go_simp; try with_reducible rfl)
    try simp only [Act.put, List.setIfInBounds_toArray, List.set_cons_zero, List.set_cons_succ]
    refine wpAnyH_take (i := 1) (v := ?_) (by simp only [List.getElem?_toArray, List.getElem?_cons_zero, List.getElem?_cons_succ]; rfl) (by kernel_rfl) (by kernel_rfl) (by kernel_rfl) (by exact fun _ _ _ h => h) (Or.inl ⟨by rfl, ?_⟩) (by assumption) ?_
    rotate_left
    · (intro w' hSw; (try dsimp only at hSw); go_simp; try with_reducible rfl)
    try simp only [Act.put, List.setIfInBounds_toArray, List.set_cons_zero, List.set_cons_succ]
    refine wpAnyH_ready (rs := [2]) (by kernel_rfl) (by simp) ?_
    refine AllReadyH.cons (by simp only [List.getElem?_toArray, List.getElem?_cons_zero, List.getElem?_cons_succ]; rfl) (fun K hK => ?_) (AllReadyH.nil)
    go_simp
    refine (lies_any _ _ _ _ _).mono ?_; rw [F1.out]; rintro e w1 ⟨rfl, hb⟩
    have hB2 := after hB hb
    clear hB
    have hB := hB2
    clear hB2
    go_wp2_with fail
    refine hK.out _ _ ⟨keepC hb hHeld.1, keepC hb hHeld.2.1, keepC hb hHeld.2.2.1, keepC hb hHeld.2.2.2.1, keepC hb hHeld.2.2.2.2.1, keepC hb hHeld.2.2.2.2.2.1, keepC hb hHeld.2.2.2.2.2.2.1, keepC hb hHeld.2.2.2.2.2.2.2.1, keepC hb hHeld.2.2.2.2.2.2.2.2.1, keepC hb hHeld.2.2.2.2.2.2.2.2.2.1, keepC hb hHeld.2.2.2.2.2.2.2.2.2.2.1, keepC hb hHeld.2.2.2.2.2.2.2.2.2.2.2⟩ (fun hNext => ?_)
    clear hHeld hK K
    have hHeld := hNext
    clear hNext
    try simp only [Act.put, List.setIfInBounds_toArray, List.set_cons_zero, List.set_cons_succ]
    refine wpAnyH_take (i := 3) (v := ?_) (by simp only [List.getElem?_toArray, List.getElem?_cons_zero, List.getElem?_cons_succ]; rfl) (by kernel_rfl) (by kernel_rfl) (by kernel_rfl) (by exact fun _ _ _ h => h) (Or.inl ⟨by rfl, ?_⟩) (by assumption) ?_
    rotate_left
    · (intro w' hSw; (try dsimp only at hSw); go_simp; try with_reducible rfl)
    try simp only [Act.put, List.setIfInBounds_toArray, List.set_cons_zero, List.set_cons_succ]
    refine wpAnyH_take (i := 4) (v := ?_) (by simp only [List.getElem?_toArray, List.getElem?_cons_zero, List.getElem?_cons_succ]; rfl) (by kernel_rfl) (by kernel_rfl) (by kernel_rfl) (by exact fun _ _ _ h => h) (Or.inl ⟨by rfl, ?_⟩) (by assumption) ?_
    rotate_left
    · (intro w' hSw; (try dsimp only at hSw); go_simp; try with_reducible rfl)
    try simp only [Act.put, List.setIfInBounds_toArray, List.set_cons_zero, List.set_cons_succ]
    refine wpAnyH_take (i := 5) (v := ?_) (by simp only [List.getElem?_toArray, List.getElem?_cons_zero, List.getElem?_cons_succ]; rfl) (by kernel_rfl) (by kernel_rfl) (by kernel_rfl) (by exact fun _ _ _ h => h) (Or.inl ⟨by rfl, ?_⟩) (by assumption) ?_
    rotate_left
    · (intro w' hSw; (try dsimp only at hSw); go_simp; try with_reducible rfl)
    try simp only [Act.put, List.setIfInBounds_toArray, List.set_cons_zero, List.set_cons_succ]
    refine wpAnyH_take (i := 6) (v := ?_) (by simp only [List.getElem?_toArray, List.getElem?_cons_zero, List.getElem?_cons_succ]; rfl) (by kernel_rfl) (by kernel_rfl) (by kernel_rfl) (by exact fun _ _ _ h => h) (Or.inl ⟨by rfl, ?_⟩) (by assumption) ?_
    rotate_left
    · (intro w' hSw; (try dsimp only at hSw); go_simp; try with_reducible rfl)
    try simp only [Act.put, List.setIfInBounds_toArray, List.set_cons_zero, List.set_cons_succ]
    refine wpAnyH_ready (rs := [7]) (by kernel_rfl) (by simp) ?_
    refine AllReadyH.cons (by simp only [List.getElem?_toArray, List.getElem?_cons_zero, List.getElem?_cons_succ]; rfl) (fun K hK => ?_) (AllReadyH.nil)
    go_simp
    refine (lies_any _ _ _ _ _).mono ?_; rw [F2.out]; rintro e w1 ⟨rfl, hb⟩
    have hB2 := after hB hb
    clear hB
    have hB := hB2
    clear hB2
    go_wp2_with fail
    refine hK.out _ _ ⟨keepC hb hHeld.1, keepC hb hHeld.2.1, keepC hb hHeld.2.2.1, keepC hb hHeld.2.2.2.1, keepC hb hHeld.2.2.2.2.1, keepC hb hHeld.2.2.2.2.2.1, keepC hb hHeld.2.2.2.2.2.2.1, keepC hb hHeld.2.2.2.2.2.2.2.1, keepC hb hHeld.2.2.2.2.2.2.2.2.1, keepC hb hHeld.2.2.2.2.2.2.2.2.2.1, keepC hb hHeld.2.2.2.2.2.2.2.2.2.2.1, keepC hb hHeld.2.2.2.2.2.2.2.2.2.2.2⟩ (fun hNext => ?_)
    clear hHeld hK K
    have hHeld := hNext
    clear hNext
    try simp only [Act.put, List.setIfInBounds_toArray, List.set_cons_zero, List.set_cons_succ]
    refine wpAnyH_take (i := 8) (v := ?_) (by simp only [List.getElem?_toArray, List.getElem?_cons_zero, List.getElem?_cons_succ]; rfl) (by kernel_rfl) (by kernel_rfl) (by kernel_rfl) (by exact fun _ _ _ h => h) (Or.inl ⟨by rfl, ?_⟩) (by assumption) ?_
    rotate_left
    · (intro w' hSw; (try dsimp only at hSw); go_simp; try with_reducible rfl)
    try simp only [Act.put, List.setIfInBounds_toArray, List.set_cons_zero, List.set_cons_succ]
    refine wpAnyH_take (i := 9) (v := ?_) (by simp only [List.getElem?_toArray, List.getElem?_cons_zero, List.getElem?_cons_succ]; rfl) (by kernel_rfl) (by kernel_rfl) (by kernel_rfl) (by exact fun _ _ _ h => h) (Or.inl ⟨by rfl, ?_⟩) (by assumption) ?_
    rotate_left
    · (intro w' hSw; (try dsimp only at hSw); go_simp; try with_reducible rfl)
    try simp only [Act.put, List.setIfInBounds_toArray, List.set_cons_zero, List.set_cons_succ]
    refine wpAnyH_take (i := 10) (v := ?_) (by simp only [List.getElem?_toArray, List.getElem?_cons_zero, List.getElem?_cons_succ]; rfl) (by kernel_rfl) (by kernel_rfl) (by kernel_rfl) (by exact fun _ _ _ h => h) (Or.inl ⟨by rfl, ?_⟩) (by assumption) ?_
    rotate_left
    · (intro w' hSw; (try dsimp only at hSw); go_simp; try with_reducible rfl)
    try simp only [Act.put, List.setIfInBounds_toArray, List.set_cons_zero, List.set_cons_succ]
    refine wpAnyH_take (i := 11) (v := ?_) (by simp only [List.getElem?_toArray, List.getElem?_cons_zero, List.getElem?_cons_succ]; rfl) (by kernel_rfl) (by kernel_rfl) (by kernel_rfl) (by exact fun _ _ _ h => h) (Or.inl ⟨by rfl, ?_⟩) (by assumption) ?_
    rotate_left
    · (intro w' hSw; (try dsimp only at hSw); go_simp; try with_reducible rfl)
    try simp only [Act.put, List.setIfInBounds_toArray, List.set_cons_zero, List.set_cons_succ]
    refine wpAnyH_take (i := 12) (v := ?_) (by simp only [List.getElem?_toArray, List.getElem?_cons_zero, List.getElem?_cons_succ]; rfl) (by kernel_rfl) (by kernel_rfl) (by kernel_rfl) (by exact fun _ _ _ h => h) (Or.inl ⟨by rfl, ?_⟩) (by assumption) ?_
    rotate_left
    · (intro w' hSw; (try dsimp only at hSw); go_simp; try with_reducible rfl)
    try simp only [Act.put, List.setIfInBounds_toArray, List.set_cons_zero, List.set_cons_succ]
    refine wpAnyH_ready (rs := [13]) (by kernel_rfl) (by simp) ?_
    refine AllReadyH.cons (by simp only [List.getElem?_toArray, List.getElem?_cons_zero, List.getElem?_cons_succ]; rfl) (fun K hK => ?_) (AllReadyH.nil)
    go_simp
    refine (lies_any _ _ _ _ _).mono ?_; rw [F3.out]; rintro e w1 ⟨rfl, hb⟩
    have hB2 := after hB hb
    clear hB
    have hB := hB2
    clear hB2
    go_wp2_with fail
    refine hK.out _ _ ⟨keepC hb hHeld.1, keepC hb hHeld.2.1, keepC hb hHeld.2.2.1, keepC hb hHeld.2.2.2.1, keepC hb hHeld.2.2.2.2.1, keepC hb hHeld.2.2.2.2.2.1, keepC hb hHeld.2.2.2.2.2.2.1, keepC hb hHeld.2.2.2.2.2.2.2.1, keepC hb hHeld.2.2.2.2.2.2.2.2.1, keepC hb hHeld.2.2.2.2.2.2.2.2.2.1, keepC hb hHeld.2.2.2.2.2.2.2.2.2.2.1, keepC hb hHeld.2.2.2.2.2.2.2.2.2.2.2⟩ (fun hNext => ?_)
    clear hHeld hK K
    have hHeld := hNext
    clear hNext
    try simp only [Act.put, List.setIfInBounds_toArray, List.set_cons_zero, List.set_cons_succ]
    refine wpAnyH_take (i := 14) (v := ?_) (by simp only [List.getElem?_toArray, List.getElem?_cons_zero, List.getElem?_cons_succ]; rfl) (by kernel_rfl) (by kernel_rfl) (by kernel_rfl) (by exact fun _ _ _ h => h) (Or.inl ⟨by rfl, ?_⟩) (by assumption) ?_
    rotate_left
    · (intro w' hSw; (try dsimp only at hSw); go_simp; try with_reducible rfl)
    try simp only [Act.put, List.setIfInBounds_toArray, List.set_cons_zero, List.set_cons_succ]
    refine wpAnyH_take (i := 15) (v := ?_) (by simp only [List.getElem?_toArray, List.getElem?_cons_zero, List.getElem?_cons_succ]; rfl) (by kernel_rfl) (by kernel_rfl) (by kernel_rfl) (by exact fun _ _ _ h => h) (Or.inl ⟨by rfl, ?_⟩) (by assumption) ?_
    rotate_left
    · (intro w' hSw; (try dsimp only at hSw); go_simp; try with_reducible rfl)
    try simp only [Act.put, List.setIfInBounds_toArray, List.set_cons_zero, List.set_cons_succ]
    refine wpAnyH_take (i := 16) (v := ?_) (by simp only [List.getElem?_toArray, List.getElem?_cons_zero, List.getElem?_cons_succ]; rfl) (by kernel_rfl) (by kernel_rfl) (by kernel_rfl) (by exact fun _ _ _ h => h) (Or.inl ⟨by rfl, ?_⟩) (by assumption) ?_
    rotate_left
    · (intro w' hSw; (try dsimp only at hSw); go_simp; try with_reducible rfl)
    try simp only [Act.put, List.setIfInBounds_toArray, List.set_cons_zero, List.set_cons_succ]
    refine wpAnyH_take (i := 17) (v := ?_) (by simp only [List.getElem?_toArray, List.getElem?_cons_zero, List.getElem?_cons_succ]; rfl) (by kernel_rfl) (by kernel_rfl) (by kernel_rfl) (by exact fun _ _ _ h => h) (Or.inl ⟨by rfl, ?_⟩) (by assumption) ?_
    rotate_left
    · (intro w' hSw; (try dsimp only at hSw); go_simp; try with_reducible rfl)
    try simp only [Act.put, List.setIfInBounds_toArray, List.set_cons_zero, List.set_cons_succ]
    refine wpAnyH_take (i := 18) (v := ?_) (by simp only [List.getElem?_toArray, List.getElem?_cons_zero, List.getElem?_cons_succ]; rfl) (by kernel_rfl) (by kernel_rfl) (by kernel_rfl) (by exact fun _ _ _ h => h) (Or.inl ⟨by rfl, ?_⟩) (by assumption) ?_
    rotate_left
    · (intro w' hSw; (try dsimp only at hSw); go_simp; try with_reducible rfl)
    try simp only [Act.put, List.setIfInBounds_toArray, List.set_cons_zero, List.set_cons_succ]
    refine wpAnyH_ready (rs := [19]) (by kernel_rfl) (by simp) ?_
    refine AllReadyH.cons (by simp only [List.getElem?_toArray, List.getElem?_cons_zero, List.getElem?_cons_succ]; rfl) (fun K hK => ?_) (AllReadyH.nil)
    go_simp
    refine (lies_any _ _ _ _ _).mono ?_; rw [F4.out]; rintro e w1 ⟨rfl, hb⟩
    have hB2 := after hB hb
    clear hB
    have hB := hB2
    clear hB2
    go_wp2_with fail
    refine hK.out _ _ ⟨keepC hb hHeld.1, keepC hb hHeld.2.1, keepC hb hHeld.2.2.1, keepC hb hHeld.2.2.2.1, keepC hb hHeld.2.2.2.2.1, keepC hb hHeld.2.2.2.2.2.1, keepC hb hHeld.2.2.2.2.2.2.1, keepC hb hHeld.2.2.2.2.2.2.2.1, keepC hb hHeld.2.2.2.2.2.2.2.2.1, keepC hb hHeld.2.2.2.2.2.2.2.2.2.1, keepC hb hHeld.2.2.2.2.2.2.2.2.2.2.1, keepC hb hHeld.2.2.2.2.2.2.2.2.2.2.2⟩ (fun hNext => ?_)
    clear hHeld hK K
    have hHeld := hNext
    clear hNext
    try simp only [Act.put, List.setIfInBounds_toArray, List.set_cons_zero, List.set_cons_succ]
    refine wpAnyH_take (i := 20) (v := ?_) (by simp only [List.getElem?_toArray, List.getElem?_cons_zero, List.getElem?_cons_succ]; rfl) (by kernel_rfl) (by kernel_rfl) (by kernel_rfl) (by exact fun _ _ _ h => h) (Or.inl ⟨by rfl, ?_⟩) (by assumption) ?_
    rotate_left
    · (intro w' hSw; (try dsimp only at hSw); go_simp; try with_reducible rfl)
    try simp only [Act.put, List.setIfInBounds_toArray, List.set_cons_zero, List.set_cons_succ]
    refine wpAnyH_take (i := 21) (v := ?_) (by simp only [List.getElem?_toArray, List.getElem?_cons_zero, List.getElem?_cons_succ]; rfl) (by kernel_rfl) (by kernel_rfl) (by kernel_rfl) (by exact fun _ _ _ h => h) (Or.inl ⟨by rfl, ?_⟩) (by assumption) ?_
    rotate_left
    · (intro w' hSw; (try dsimp only at hSw); go_simp; try with_reducible rfl)
    try simp only [Act.put, List.setIfInBounds_toArray, List.set_cons_zero, List.set_cons_succ]
    refine wpAnyH_take (i := 22) (v := ?_) (by simp only [List.getElem?_toArray, List.getElem?_cons_zero, List.getElem?_cons_succ]; rfl) (by kernel_rfl) (by kernel_rfl) (by kernel_rfl) (by exact fun _ _ _ h => h) (Or.inl ⟨by rfl, ?_⟩) (by assumption) ?_
    rotate_left
    · (intro w' hSw; (try dsimp only at hSw); go_simp; try with_reducible rfl)
    try simp only [Act.put, List.setIfInBounds_toArray, List.set_cons_zero, List.set_cons_succ]
    refine wpAnyH_take (i := 23) (v := ?_) (by simp only [List.getElem?_toArray, List.getElem?_cons_zero, List.getElem?_cons_succ]; rfl) (by kernel_rfl) (by kernel_rfl) (by kernel_rfl) (by exact fun _ _ _ h => h) (Or.inl ⟨by rfl, ?_⟩) (by assumption) ?_
    rotate_left
    · (intro w' hSw; (try dsimp only at hSw); go_simp; try with_reducible rfl)
    try simp only [Act.put, List.setIfInBounds_toArray, List.set_cons_zero, List.set_cons_succ]
    refine wpAnyH_take (i := 24) (v := ?_) (by simp only [List.getElem?_toArray, List.getElem?_cons_zero, List.getElem?_cons_succ]; rfl) (by kernel_rfl) (by kernel_rfl) (by kernel_rfl) (by exact fun _ _ _ h => h) (Or.inl ⟨by rfl, ?_⟩) (by assumption) ?_
    rotate_left
    · (intro w' hSw; (try dsimp only at hSw); go_simp; try with_reducible rfl)
    try simp only [Act.put, List.setIfInBounds_toArray, List.set_cons_zero, List.set_cons_succ]
    refine wpAnyH_ready (rs := [25]) (by kernel_rfl) (by simp) ?_
    refine AllReadyH.cons (by simp only [List.getElem?_toArray, List.getElem?_cons_zero, List.getElem?_cons_succ]; rfl) (fun K hK => ?_) (AllReadyH.nil)
    go_simp
    refine (lies_any _ _ _ _ _).mono ?_; rw [F5.out]; rintro e w1 ⟨rfl, hb⟩
    have hB2 := after hB hb
    clear hB
    have hB := hB2
    clear hB2
    go_wp2_with fail
    refine hK.out _ _ ⟨keepC hb hHeld.1, keepC hb hHeld.2.1, keepC hb hHeld.2.2.1, keepC hb hHeld.2.2.2.1, keepC hb hHeld.2.2.2.2.1, keepC hb hHeld.2.2.2.2.2.1, keepC hb hHeld.2.2.2.2.2.2.1, keepC hb hHeld.2.2.2.2.2.2.2.1, keepC hb hHeld.2.2.2.2.2.2.2.2.1, keepC hb hHeld.2.2.2.2.2.2.2.2.2.1, keepC hb hHeld.2.2.2.2.2.2.2.2.2.2.1, keepC hb hHeld.2.2.2.2.2.2.2.2.2.2.2⟩ (fun hNext => ?_)
    clear hHeld hK K
    have hHeld := hNext
    clear hNext
    try simp only [Act.put, List.setIfInBounds_toArray, List.set_cons_zero, List.set_cons_succ]
    refine wpAnyH_take (i := 26) (v := ?_) (by simp only [List.getElem?_toArray, List.getElem?_cons_zero, List.getElem?_cons_succ]; rfl) (by kernel_rfl) (by kernel_rfl) (by kernel_rfl) (by exact fun _ _ _ h => h) (Or.inl ⟨by rfl, ?_⟩) (by assumption) ?_
    rotate_left
    · (intro w' hSw; (try dsimp only at hSw); go_simp; try with_reducible rfl)
    try simp only [Act.put, List.setIfInBounds_toArray, List.set_cons_zero, List.set_cons_succ]
    refine wpAnyH_take (i := 27) (v := ?_) (by simp only [List.getElem?_toArray, List.getElem?_cons_zero, List.getElem?_cons_succ]; rfl) (by kernel_rfl) (by kernel_rfl) (by kernel_rfl) (by exact fun _ _ _ h => h) (Or.inl ⟨by rfl, ?_⟩) (by assumption) ?_
    rotate_left
    · (intro w' hSw; (try dsimp only at hSw); go_simp; try with_reducible rfl)
    try simp only [Act.put, List.setIfInBounds_toArray, List.set_cons_zero, List.set_cons_succ]
    refine wpAnyH_take (i := 28) (v := ?_) (by simp only [List.getElem?_toArray, List.getElem?_cons_zero, List.getElem?_cons_succ]; rfl) (by kernel_rfl) (by kernel_rfl) (by kernel_rfl) (by exact fun _ _ _ h => h) (Or.inl ⟨by rfl, ?_⟩) (by assumption) ?_
    rotate_left
    · (intro w' hSw; (try dsimp only at hSw); go_simp; try with_reducible rfl)
    try simp only [Act.put, List.setIfInBounds_toArray, List.set_cons_zero, List.set_cons_succ]
    refine wpAnyH_take (i := 29) (v := ?_) (by simp only [List.getElem?_toArray, List.getElem?_cons_zero, List.getElem?_cons_succ]; rfl) (by kernel_rfl) (by kernel_rfl) (by kernel_rfl) (by exact fun _ _ _ h => h) (Or.inl ⟨by rfl, ?_⟩) (by assumption) ?_
    rotate_left
    · (intro w' hSw; (try dsimp only at hSw); go_simp; try with_reducible rfl)
    try simp only [Act.put, List.setIfInBounds_toArray, List.set_cons_zero, List.set_cons_succ]
    refine wpAnyH_take (i := 30) (v := ?_) (by simp only [List.getElem?_toArray, List.getElem?_cons_zero, List.getElem?_cons_succ]; rfl) (by kernel_rfl) (by kernel_rfl) (by kernel_rfl) (by exact fun _ _ _ h => h) (Or.inl ⟨by rfl, ?_⟩) (by assumption) ?_
    rotate_left
    · (intro w' hSw; (try dsimp only at hSw); go_simp; try with_reducible rfl)
    try simp only [Act.put, List.setIfInBounds_toArray, List.set_cons_zero, List.set_cons_succ]
    refine wpAnyH_take (i := 31) (v := ?_) (by simp only [List.getElem?_toArray, List.getElem?_cons_zero, List.getElem?_cons_succ]; rfl) (by kernel_rfl) (by kernel_rfl) (by kernel_rfl) (by exact fun _ _ _ h => h) (Or.inl ⟨by rfl, ?_⟩) (by assumption) ?_
    rotate_left
    · (intro w' hSw; (try dsimp only at hSw); go_simp; try with_reducible rfl)
    try simp only [Act.put, List.setIfInBounds_toArray, List.set_cons_zero, List.set_cons_succ]
    refine wpAnyH_ready (rs := [32]) (by kernel_rfl) (by simp) ?_
    refine AllReadyH.cons (by simp only [List.getElem?_toArray, List.getElem?_cons_zero, List.getElem?_cons_succ]; rfl) (fun K hK => ?_) (AllReadyH.nil)
    go_simp
    refine (join_any _ _ _ _ _ (HL.out.after (after HJ2.out.bel hB))).mono ?_; rw [F6.out]; rintro e w1 ⟨rfl, hb⟩
    have hB2 := after hB hb
    clear hB
    have hB := hB2
    clear hB2
    go_wp2_with fail
    refine hK.out _ _ ⟨keepC hb hHeld.1, keepC hb hHeld.2.1, keepC hb hHeld.2.2.1, keepC hb hHeld.2.2.2.1, keepC hb hHeld.2.2.2.2.1, keepC hb hHeld.2.2.2.2.2.1, keepC hb hHeld.2.2.2.2.2.2.1, keepC hb hHeld.2.2.2.2.2.2.2.1, keepC hb hHeld.2.2.2.2.2.2.2.2.1, keepC hb hHeld.2.2.2.2.2.2.2.2.2.1, keepC hb hHeld.2.2.2.2.2.2.2.2.2.2.1, keepC hb hHeld.2.2.2.2.2.2.2.2.2.2.2⟩ (fun hNext => ?_)
    clear hHeld hK K
    have hHeld := hNext
    clear hNext
    try simp only [Act.put, List.setIfInBounds_toArray, List.set_cons_zero, List.set_cons_succ]
    refine wpAnyH_take (i := 33) (v := ?_) (by simp only [List.getElem?_toArray, List.getElem?_cons_zero, List.getElem?_cons_succ]; rfl) (by kernel_rfl) (by kernel_rfl) (by kernel_rfl) (by exact fun _ _ _ h => h) (Or.inl ⟨by rfl, ?_⟩) (by assumption) ?_
    rotate_left
    · (intro w' hSw; (try dsimp only at hSw); go_simp; try with_reducible rfl)
    try simp only [Act.put, List.setIfInBounds_toArray, List.set_cons_zero, List.set_cons_succ]
    refine wpAnyH_take (i := 34) (v := ?_) (by simp only [List.getElem?_toArray, List.getElem?_cons_zero, List.getElem?_cons_succ]; rfl) (by kernel_rfl) (by kernel_rfl) (by kernel_rfl) (by exact fun _ _ _ h => h) (Or.inl ⟨by rfl, ?_⟩) (by assumption) ?_
    rotate_left
    · (intro w' hSw; (try dsimp only at hSw); go_simp; try with_reducible rfl)
    try simp only [Act.put, List.setIfInBounds_toArray, List.set_cons_zero, List.set_cons_succ]
    refine wpAnyH_take (i := 35) (v := ?_) (by simp only [List.getElem?_toArray, List.getElem?_cons_zero, List.getElem?_cons_succ]; rfl) (by kernel_rfl) (by kernel_rfl) (by kernel_rfl) (by exact fun _ _ _ h => h) (Or.inl ⟨by rfl, ?_⟩) (by assumption) ?_
    rotate_left
    · (intro w' hSw; (try dsimp only at hSw); go_simp; try with_reducible rfl)
    try simp only [Act.put, List.setIfInBounds_toArray, List.set_cons_zero, List.set_cons_succ]
    refine wpAnyH_take (i := 36) (v := ?_) (by simp only [List.getElem?_toArray, List.getElem?_cons_zero, List.getElem?_cons_succ]; rfl) (by kernel_rfl) (by kernel_rfl) (by kernel_rfl) (by exact fun _ _ _ h => h) (Or.inl ⟨by rfl, ?_⟩) (by assumption) ?_
    rotate_left
    · (intro w' hSw; (try dsimp only at hSw); go_simp; try with_reducible rfl)
    try simp only [Act.put, List.setIfInBounds_toArray, List.set_cons_zero, List.set_cons_succ]
    refine wpAnyH_take (i := 37) (v := ?_) (by simp only [List.getElem?_toArray, List.getElem?_cons_zero, List.getElem?_cons_succ]; rfl) (by kernel_rfl) (by kernel_rfl) (by kernel_rfl) (by exact fun _ _ _ h => h) (Or.inl ⟨by rfl, ?_⟩) (by assumption) ?_
    rotate_left
    · (intro w' hSw; (try dsimp only at hSw); go_simp; try with_reducible rfl)
    try simp only [Act.put, List.setIfInBounds_toArray, List.set_cons_zero, List.set_cons_succ]
    refine wpAnyH_take (i := 38) (v := ?_) (by simp only [List.getElem?_toArray, List.getElem?_cons_zero, List.getElem?_cons_succ]; rfl) (by kernel_rfl) (by kernel_rfl) (by kernel_rfl) (by exact fun _ _ _ h => h) (Or.inl ⟨by rfl, ?_⟩) (by assumption) ?_
    rotate_left
    · (intro w' hSw; (try dsimp only at hSw); go_simp; try with_reducible rfl)
    try simp only [Act.put, List.setIfInBounds_toArray, List.set_cons_zero, List.set_cons_succ]
    refine wpAnyH_ready (rs := [39]) (by kernel_rfl) (by simp) ?_
    refine AllReadyH.cons (by simp only [List.getElem?_toArray, List.getElem?_cons_zero, List.getElem?_cons_succ]; rfl) (fun K hK => ?_) (AllReadyH.nil)
    go_simp
    refine (meet_any _ _ _ _ _ (HL.out.after (after HJ2.out.bel hB))).mono ?_; rw [F7.out]; rintro e w1 ⟨rfl, hb⟩
    have hB2 := after hB hb
    clear hB
    have hB := hB2
    clear hB2
    go_wp2_with fail
    refine hK.out _ _ ⟨keepC hb hHeld.1, keepC hb hHeld.2.1, keepC hb hHeld.2.2.1, keepC hb hHeld.2.2.2.1, keepC hb hHeld.2.2.2.2.1, keepC hb hHeld.2.2.2.2.2.1, keepC hb hHeld.2.2.2.2.2.2.1, keepC hb hHeld.2.2.2.2.2.2.2.1, keepC hb hHeld.2.2.2.2.2.2.2.2.1, keepC hb hHeld.2.2.2.2.2.2.2.2.2.1, keepC hb hHeld.2.2.2.2.2.2.2.2.2.2.1, keepC hb hHeld.2.2.2.2.2.2.2.2.2.2.2⟩ (fun hNext => ?_)
    clear hHeld hK K
    have hHeld := hNext
    clear hNext
    try simp only [Act.put, List.setIfInBounds_toArray, List.set_cons_zero, List.set_cons_succ]
    refine wpAnyH_take (i := 40) (v := ?_) (by simp only [List.getElem?_toArray, List.getElem?_cons_zero, List.getElem?_cons_succ]; rfl) (by kernel_rfl) (by kernel_rfl) (by kernel_rfl) (by exact fun _ _ _ h => h) (Or.inl ⟨by rfl, ?_⟩) (by assumption) ?_
    rotate_left
    · (intro w' hSw; (try dsimp only at hSw); go_simp; try with_reducible rfl)
    try simp only [Act.put, List.setIfInBounds_toArray, List.set_cons_zero, List.set_cons_succ]
    refine wpAnyH_take (i := 41) (v := ?_) (by simp only [List.getElem?_toArray, List.getElem?_cons_zero, List.getElem?_cons_succ]; rfl) (by kernel_rfl) (by kernel_rfl) (by kernel_rfl) (by exact fun _ _ _ h => h) (Or.inl ⟨by rfl, ?_⟩) (by assumption) ?_
    rotate_left
    · (intro w' hSw; (try dsimp only at hSw); go_simp; try with_reducible rfl)
    try simp only [Act.put, List.setIfInBounds_toArray, List.set_cons_zero, List.set_cons_succ]
    refine wpAnyH_done (by kernel_rfl) ?_ _
    go_wp2_with fail
    cases ha : hasB a0 a1 v
    all_goals cases hbb : hasB b0 b1 v
    · 
      have Ba : Hid (hasB a0 a1 v = false) := ha
      have Bb : Hid (hasB b0 b1 v = false) := hbb
      have Bm : Hid (hasB m0 m1 v = false) := (by show _ = _; rw [F8.out, ha, hbb]; rfl)
      clear ha hbb F8 F9
      refine wp_region_held_drew (S := fun w' => w'.cell? ⟨w.heap.size, 0, none⟩ = some (.int .i64 a0) ∧ w'.cell? ⟨w.heap.size, 1, none⟩ = some (.int .i64 a1) ∧ w'.cell? ⟨w.heap.size + 1, 0, none⟩ = some (.int .i64 b0) ∧ w'.cell? ⟨w.heap.size + 1, 1, none⟩ = some (.int .i64 b1) ∧ w'.cell? ⟨w.heap.size + 1 + 1, 0, none⟩ = some (.int .i64 c0) ∧ w'.cell? ⟨w.heap.size + 1 + 1, 1, none⟩ = some (.int .i64 c1) ∧ w'.cell? ⟨g9, 0, none⟩ = some (.int .i64 j0) ∧ w'.cell? ⟨g9, 1, none⟩ = some (.int .i64 j1) ∧ w'.cell? ⟨g10, 0, none⟩ = some (.int .i64 m0) ∧ w'.cell? ⟨g10, 1, none⟩ = some (.int .i64 m1) ∧ w'.cell? ⟨g11, 0, none⟩ = some (.int .i64 x0) ∧ w'.cell? ⟨g11, 1, none⟩ = some (.int .i64 x1)) (by kernel_rfl) hHeld (fun hNext => ?_)
      clear hHeld
      have hHeld := hNext
      clear hNext
      have hB2 := Below.drew hB
      clear hB
      have hB := hB2
      clear hB2
      refine wpAnyH_take (i := 0) (v := ?_) (by simp only [List.getElem?_toArray, List.getElem?_cons_zero, List.getElem?_cons_succ]; rfl) (by kernel_rfl) (by kernel_rfl) (by kernel_rfl) (by exact fun _ _ _ h => h) (Or.inl ⟨by rfl, ?_⟩) (by assumption) ?_
      rotate_left
      · (intro w' hSw; (try dsimp only at hSw); go_simp; try with_reducible rfl)
      try simp only [Act.put, List.setIfInBounds_toArray, List.set_cons_zero, List.set_cons_succ]
      refine wpAnyH_take (i := 1) (v := ?_) (by simp only [List.getElem?_toArray, List.getElem?_cons_zero, List.getElem?_cons_succ]; rfl) (by kernel_rfl) (by kernel_rfl) (by kernel_rfl) (by exact fun _ _ _ h => h) (Or.inl ⟨by rfl, ?_⟩) (by assumption) ?_
      rotate_left
      · (intro w' hSw; (try dsimp only at hSw); go_simp; try with_reducible rfl)
      try simp only [Act.put, List.setIfInBounds_toArray, List.set_cons_zero, List.set_cons_succ]
      refine wpAnyH_take (i := 3) (v := ?_) (by simp only [List.getElem?_toArray, List.getElem?_cons_zero, List.getElem?_cons_succ]; rfl) (by kernel_rfl) (by kernel_rfl) (by kernel_rfl) (by exact fun _ _ _ h => h) (Or.inl ⟨by rfl, ?_⟩) (by assumption) ?_
      rotate_left
      · (intro w' hSw; (try dsimp only at hSw); go_simp; try with_reducible rfl)
      try simp only [Act.put, List.setIfInBounds_toArray, List.set_cons_zero, List.set_cons_succ]
      refine wpAnyH_take (i := 4) (v := ?_) (by simp only [List.getElem?_toArray, List.getElem?_cons_zero, List.getElem?_cons_succ]; rfl) (by kernel_rfl) (by kernel_rfl) (by kernel_rfl) (by exact fun _ _ _ h => h) (Or.inl ⟨by rfl, ?_⟩) (by assumption) ?_
      rotate_left
      · (intro w' hSw; (try dsimp only at hSw); go_simp; try with_reducible rfl)
      try simp only [Act.put, List.setIfInBounds_toArray, List.set_cons_zero, List.set_cons_succ]
      refine wpAnyH_ready (rs := [2]) (by kernel_rfl) (by simp) ?_
      refine AllReadyH.cons (by simp only [List.getElem?_toArray, List.getElem?_cons_zero, List.getElem?_cons_succ]; rfl) (fun K hK => ?_) (AllReadyH.nil)
      go_simp
      refine (has_any _ _ _ _).mono ?_; rw [Bm.out]; rintro e w1 ⟨rfl, hb⟩
      have hB2 := after hB hb
      clear hB
      have hB := hB2
      clear hB2
      go_wp2_with fail
      refine hK.out _ _ ⟨keepC hb hHeld.1, keepC hb hHeld.2.1, keepC hb hHeld.2.2.1, keepC hb hHeld.2.2.2.1, keepC hb hHeld.2.2.2.2.1, keepC hb hHeld.2.2.2.2.2.1, keepC hb hHeld.2.2.2.2.2.2.1, keepC hb hHeld.2.2.2.2.2.2.2.1, keepC hb hHeld.2.2.2.2.2.2.2.2.1, keepC hb hHeld.2.2.2.2.2.2.2.2.2.1, keepC hb hHeld.2.2.2.2.2.2.2.2.2.2.1, keepC hb hHeld.2.2.2.2.2.2.2.2.2.2.2⟩ (fun hNext => ?_)
      clear hHeld hK K
      have hHeld := hNext
      clear hNext
      try simp only [Act.put, List.setIfInBounds_toArray, List.set_cons_zero, List.set_cons_succ]
      refine wpAnyH_ready (rs := [5]) (by kernel_rfl) (by simp) ?_
      refine AllReadyH.cons (by simp only [List.getElem?_toArray, List.getElem?_cons_zero, List.getElem?_cons_succ]; rfl) (fun K hK => ?_) (AllReadyH.nil)
      go_simp
      refine (has_any _ _ _ _).mono ?_; rw [Ba.out]; rintro e w1 ⟨rfl, hb⟩
      have hB2 := after hB hb
      clear hB
      have hB := hB2
      clear hB2
      go_wp2_with fail
      refine hK.out _ _ ⟨keepC hb hHeld.1, keepC hb hHeld.2.1, keepC hb hHeld.2.2.1, keepC hb hHeld.2.2.2.1, keepC hb hHeld.2.2.2.2.1, keepC hb hHeld.2.2.2.2.2.1, keepC hb hHeld.2.2.2.2.2.2.1, keepC hb hHeld.2.2.2.2.2.2.2.1, keepC hb hHeld.2.2.2.2.2.2.2.2.1, keepC hb hHeld.2.2.2.2.2.2.2.2.2.1, keepC hb hHeld.2.2.2.2.2.2.2.2.2.2.1, keepC hb hHeld.2.2.2.2.2.2.2.2.2.2.2⟩ (fun hNext => ?_)
      clear hHeld hK K
      have hHeld := hNext
      clear hNext
      try simp only [Act.put, List.setIfInBounds_toArray, List.set_cons_zero, List.set_cons_succ]
      refine wpAnyH_take (i := 6) (v := ?_) (by simp only [List.getElem?_toArray, List.getElem?_cons_zero, List.getElem?_cons_succ]; rfl) (by kernel_rfl) (by kernel_rfl) (by kernel_rfl) (by exact fun _ _ _ h => h) (Or.inl ⟨by rfl, ?_⟩) (by assumption) ?_
      rotate_left
      · (intro w' hSw; (try dsimp only at hSw); go_simp; try with_reducible rfl)
      try simp only [Act.put, List.setIfInBounds_toArray, List.set_cons_zero, List.set_cons_succ]
      refine wpAnyH_take (i := 7) (v := undef) (by simp only [List.getElem?_toArray, List.getElem?_cons_zero, List.getElem?_cons_succ]; rfl) (by kernel_rfl) (by kernel_rfl) (by kernel_rfl) (by exact fun _ _ _ h => h) (Or.inr ⟨by rfl, rfl⟩) (by assumption) ?_
      try simp only [Act.put, List.setIfInBounds_toArray, List.set_cons_zero, List.set_cons_succ]
      refine wpAnyH_take (i := 8) (v := undef) (by simp only [List.getElem?_toArray, List.getElem?_cons_zero, List.getElem?_cons_succ]; rfl) (by kernel_rfl) (by kernel_rfl) (by kernel_rfl) (by exact fun _ _ _ h => h) (Or.inr ⟨by rfl, rfl⟩) (by assumption) ?_
      try simp only [Act.put, List.setIfInBounds_toArray, List.set_cons_zero, List.set_cons_succ]
      refine wpAnyH_take (i := 9) (v := undef) (by simp only [List.getElem?_toArray, List.getElem?_cons_zero, List.getElem?_cons_succ]; rfl) (by kernel_rfl) (by kernel_rfl) (by kernel_rfl) (by exact fun _ _ _ h => h) (Or.inr ⟨by rfl, rfl⟩) (by assumption) ?_
      try simp only [Act.put, List.setIfInBounds_toArray, List.set_cons_zero, List.set_cons_succ]
      refine wpAnyH_take (i := 10) (v := ?_) (by simp only [List.getElem?_toArray, List.getElem?_cons_zero, List.getElem?_cons_succ]; rfl) (by kernel_rfl) (by kernel_rfl) (by kernel_rfl) (by exact fun _ _ _ h => h) (Or.inl ⟨by rfl, ?_⟩) (by assumption) ?_
      rotate_left
      · (intro w' hSw; (try dsimp only at hSw); go_simp; try with_reducible rfl)
      try simp only [Act.put, List.setIfInBounds_toArray, List.set_cons_zero, List.set_cons_succ]
      refine wpAnyH_take (i := 11) (v := ?_) (by simp only [List.getElem?_toArray, List.getElem?_cons_zero, List.getElem?_cons_succ]; rfl) (by kernel_rfl) (by kernel_rfl) (by kernel_rfl) (by exact fun _ _ _ h => h) (Or.inl ⟨by rfl, ?_⟩) (by assumption) ?_
      rotate_left
      · (intro w' hSw; (try dsimp only at hSw); go_simp; try with_reducible rfl)
      try simp only [Act.put, List.setIfInBounds_toArray, List.set_cons_zero, List.set_cons_succ]
      refine wpAnyH_take (i := 12) (v := ?_) (by simp only [List.getElem?_toArray, List.getElem?_cons_zero, List.getElem?_cons_succ]; rfl) (by kernel_rfl) (by kernel_rfl) (by kernel_rfl) (by exact fun _ _ _ h => h) (Or.inl ⟨by rfl, ?_⟩) (by assumption) ?_
      rotate_left
      · (intro w' hSw; (try dsimp only at hSw); go_simp; try with_reducible rfl)
      try simp only [Act.put, List.setIfInBounds_toArray, List.set_cons_zero, List.set_cons_succ]
      refine wpAnyH_take (i := 13) (v := ?_) (by simp only [List.getElem?_toArray, List.getElem?_cons_zero, List.getElem?_cons_succ]; rfl) (by kernel_rfl) (by kernel_rfl) (by kernel_rfl) (by exact fun _ _ _ h => h) (Or.inl ⟨by rfl, ?_⟩) (by assumption) ?_
      rotate_left
      · (intro w' hSw; (try dsimp only at hSw); go_simp; try with_reducible rfl)
      try simp only [Act.put, List.setIfInBounds_toArray, List.set_cons_zero, List.set_cons_succ]
      refine wpAnyH_take (i := 14) (v := ?_) (by simp only [List.getElem?_toArray, List.getElem?_cons_zero, List.getElem?_cons_succ]; rfl) (by kernel_rfl) (by kernel_rfl) (by kernel_rfl) (by exact fun _ _ _ h => h) (Or.inl ⟨by rfl, ?_⟩) (by assumption) ?_
      rotate_left
      · (intro w' hSw; (try dsimp only at hSw); go_simp; try with_reducible rfl)
      try simp only [Act.put, List.setIfInBounds_toArray, List.set_cons_zero, List.set_cons_succ]
      refine wpAnyH_ready (rs := [15]) (by kernel_rfl) (by simp) ?_
      refine AllReadyH.cons (by simp only [List.getElem?_toArray, List.getElem?_cons_zero, List.getElem?_cons_succ]; rfl) (fun K hK => ?_) (AllReadyH.nil)
      go_simp
      refine (has_any _ _ _ _).mono ?_; rw [Ba.out]; rintro e w1 ⟨rfl, hb⟩
      have hB2 := after hB hb
      clear hB
      have hB := hB2
      clear hB2
      go_wp2_with fail
      refine hK.out _ _ ⟨keepC hb hHeld.1, keepC hb hHeld.2.1, keepC hb hHeld.2.2.1, keepC hb hHeld.2.2.2.1, keepC hb hHeld.2.2.2.2.1, keepC hb hHeld.2.2.2.2.2.1, keepC hb hHeld.2.2.2.2.2.2.1, keepC hb hHeld.2.2.2.2.2.2.2.1, keepC hb hHeld.2.2.2.2.2.2.2.2.1, keepC hb hHeld.2.2.2.2.2.2.2.2.2.1, keepC hb hHeld.2.2.2.2.2.2.2.2.2.2.1, keepC hb hHeld.2.2.2.2.2.2.2.2.2.2.2⟩ (fun hNext => ?_)
      clear hHeld hK K
      have hHeld := hNext
      clear hNext
      try simp only [Act.put, List.setIfInBounds_toArray, List.set_cons_zero, List.set_cons_succ]
      refine wpAnyH_take (i := 16) (v := ?_) (by simp only [List.getElem?_toArray, List.getElem?_cons_zero, List.getElem?_cons_succ]; rfl) (by kernel_rfl) (by kernel_rfl) (by kernel_rfl) (by exact fun _ _ _ h => h) (Or.inl ⟨by rfl, ?_⟩) (by assumption) ?_
      rotate_left
      · (intro w' hSw; (try dsimp only at hSw); go_simp; try with_reducible rfl)
      try simp only [Act.put, List.setIfInBounds_toArray, List.set_cons_zero, List.set_cons_succ]
      refine wpAnyH_take (i := 17) (v := ?_) (by simp only [List.getElem?_toArray, List.getElem?_cons_zero, List.getElem?_cons_succ]; rfl) (by kernel_rfl) (by kernel_rfl) (by kernel_rfl) (by exact fun _ _ _ h => h) (Or.inl ⟨by rfl, ?_⟩) (by assumption) ?_
      rotate_left
      · (intro w' hSw; (try dsimp only at hSw); go_simp; try with_reducible rfl)
      try simp only [Act.put, List.setIfInBounds_toArray, List.set_cons_zero, List.set_cons_succ]
      refine wpAnyH_take (i := 18) (v := ?_) (by simp only [List.getElem?_toArray, List.getElem?_cons_zero, List.getElem?_cons_succ]; rfl) (by kernel_rfl) (by kernel_rfl) (by kernel_rfl) (by exact fun _ _ _ h => h) (Or.inl ⟨by rfl, ?_⟩) (by assumption) ?_
      rotate_left
      · (intro w' hSw; (try dsimp only at hSw); go_simp; try with_reducible rfl)
      try simp only [Act.put, List.setIfInBounds_toArray, List.set_cons_zero, List.set_cons_succ]
      refine wpAnyH_take (i := 19) (v := ?_) (by simp only [List.getElem?_toArray, List.getElem?_cons_zero, List.getElem?_cons_succ]; rfl) (by kernel_rfl) (by kernel_rfl) (by kernel_rfl) (by exact fun _ _ _ h => h) (Or.inl ⟨by rfl, ?_⟩) (by assumption) ?_
      rotate_left
      · (intro w' hSw; (try dsimp only at hSw); go_simp; try with_reducible rfl)
      try simp only [Act.put, List.setIfInBounds_toArray, List.set_cons_zero, List.set_cons_succ]
      refine wpAnyH_ready (rs := [20]) (by kernel_rfl) (by simp) ?_
      refine AllReadyH.cons (by simp only [List.getElem?_toArray, List.getElem?_cons_zero, List.getElem?_cons_succ]; rfl) (fun K hK => ?_) (AllReadyH.nil)
      go_simp
      refine (has_any _ _ _ _).mono ?_; rw [Bb.out]; rintro e w1 ⟨rfl, hb⟩
      have hB2 := after hB hb
      clear hB
      have hB := hB2
      clear hB2
      go_wp2_with fail
      refine hK.out _ _ ⟨keepC hb hHeld.1, keepC hb hHeld.2.1, keepC hb hHeld.2.2.1, keepC hb hHeld.2.2.2.1, keepC hb hHeld.2.2.2.2.1, keepC hb hHeld.2.2.2.2.2.1, keepC hb hHeld.2.2.2.2.2.2.1, keepC hb hHeld.2.2.2.2.2.2.2.1, keepC hb hHeld.2.2.2.2.2.2.2.2.1, keepC hb hHeld.2.2.2.2.2.2.2.2.2.1, keepC hb hHeld.2.2.2.2.2.2.2.2.2.2.1, keepC hb hHeld.2.2.2.2.2.2.2.2.2.2.2⟩ (fun hNext => ?_)
      clear hHeld hK K
      have hHeld := hNext
      clear hNext
      try simp only [Act.put, List.setIfInBounds_toArray, List.set_cons_zero, List.set_cons_succ]
      refine wpAnyH_take (i := 21) (v := ?_) (by simp only [List.getElem?_toArray, List.getElem?_cons_zero, List.getElem?_cons_succ]; rfl) (by kernel_rfl) (by kernel_rfl) (by kernel_rfl) (by exact fun _ _ _ h => h) (Or.inl ⟨by rfl, ?_⟩) (by assumption) ?_
      rotate_left
      · (intro w' hSw; (try dsimp only at hSw); go_simp; try with_reducible rfl)
      try simp only [Act.put, List.setIfInBounds_toArray, List.set_cons_zero, List.set_cons_succ]
      refine wpAnyH_take (i := 22) (v := ?_) (by simp only [List.getElem?_toArray, List.getElem?_cons_zero, List.getElem?_cons_succ]; rfl) (by kernel_rfl) (by kernel_rfl) (by kernel_rfl) (by exact fun _ _ _ h => h) (Or.inl ⟨by rfl, ?_⟩) (by assumption) ?_
      rotate_left
      · (intro w' hSw; (try dsimp only at hSw); go_simp; try with_reducible rfl)
      try simp only [Act.put, List.setIfInBounds_toArray, List.set_cons_zero, List.set_cons_succ]
      refine wpAnyH_take (i := 23) (v := ?_) (by simp only [List.getElem?_toArray, List.getElem?_cons_zero, List.getElem?_cons_succ]; rfl) (by kernel_rfl) (by kernel_rfl) (by kernel_rfl) (by exact fun _ _ _ h => h) (Or.inl ⟨by rfl, ?_⟩) (by assumption) ?_
      rotate_left
      · (intro w' hSw; (try dsimp only at hSw); go_simp; try with_reducible rfl)
      try simp only [Act.put, List.setIfInBounds_toArray, List.set_cons_zero, List.set_cons_succ]
      refine wpAnyH_take (i := 24) (v := undef) (by simp only [List.getElem?_toArray, List.getElem?_cons_zero, List.getElem?_cons_succ]; rfl) (by kernel_rfl) (by kernel_rfl) (by kernel_rfl) (by exact fun _ _ _ h => h) (Or.inr ⟨by rfl, rfl⟩) (by assumption) ?_
      try simp only [Act.put, List.setIfInBounds_toArray, List.set_cons_zero, List.set_cons_succ]
      refine wpAnyH_take (i := 25) (v := undef) (by simp only [List.getElem?_toArray, List.getElem?_cons_zero, List.getElem?_cons_succ]; rfl) (by kernel_rfl) (by kernel_rfl) (by kernel_rfl) (by exact fun _ _ _ h => h) (Or.inr ⟨by rfl, rfl⟩) (by assumption) ?_
      try simp only [Act.put, List.setIfInBounds_toArray, List.set_cons_zero, List.set_cons_succ]
      refine wpAnyH_take (i := 26) (v := undef) (by simp only [List.getElem?_toArray, List.getElem?_cons_zero, List.getElem?_cons_succ]; rfl) (by kernel_rfl) (by kernel_rfl) (by kernel_rfl) (by exact fun _ _ _ h => h) (Or.inr ⟨by rfl, rfl⟩) (by assumption) ?_
      try simp only [Act.put, List.setIfInBounds_toArray, List.set_cons_zero, List.set_cons_succ]
      refine wpAnyH_take (i := 27) (v := ?_) (by simp only [List.getElem?_toArray, List.getElem?_cons_zero, List.getElem?_cons_succ]; rfl) (by kernel_rfl) (by kernel_rfl) (by kernel_rfl) (by exact fun _ _ _ h => h) (Or.inl ⟨by rfl, ?_⟩) (by assumption) ?_
      rotate_left
      · (intro w' hSw; (try dsimp only at hSw); go_simp; try with_reducible rfl)
      try simp only [Act.put, List.setIfInBounds_toArray, List.set_cons_zero, List.set_cons_succ]
      refine wpAnyH_take (i := 28) (v := ?_) (by simp only [List.getElem?_toArray, List.getElem?_cons_zero, List.getElem?_cons_succ]; rfl) (by kernel_rfl) (by kernel_rfl) (by kernel_rfl) (by exact fun _ _ _ h => h) (Or.inl ⟨by rfl, ?_⟩) (by assumption) ?_
      rotate_left
      · (intro w' hSw; (try dsimp only at hSw); go_simp; try with_reducible rfl)
      try simp only [Act.put, List.setIfInBounds_toArray, List.set_cons_zero, List.set_cons_succ]
      refine wpAnyH_take (i := 29) (v := ?_) (by simp only [List.getElem?_toArray, List.getElem?_cons_zero, List.getElem?_cons_succ]; rfl) (by kernel_rfl) (by kernel_rfl) (by kernel_rfl) (by exact fun _ _ _ h => h) (Or.inl ⟨by rfl, ?_⟩) (by assumption) ?_
      rotate_left
      · (intro w' hSw; (try dsimp only at hSw); go_simp; try with_reducible rfl)
      try simp only [Act.put, List.setIfInBounds_toArray, List.set_cons_zero, List.set_cons_succ]
      refine wpAnyH_ready (rs := [30]) (by kernel_rfl) (by simp) ?_
      refine AllReadyH.cons (by simp only [List.getElem?_toArray, List.getElem?_cons_zero, List.getElem?_cons_succ]; rfl) (fun K hK => ?_) (AllReadyH.nil)
      go_simp
      refine (head_true _ (HL.out.after (after HJ2.out.bel hB))).mono ?_; rintro e w1 ⟨rfl, hb⟩
      have hB2 := after hB hb
      clear hB
      have hB := hB2
      clear hB2
      go_wp2_with fail
      refine hK.out _ _ ⟨keepC hb hHeld.1, keepC hb hHeld.2.1, keepC hb hHeld.2.2.1, keepC hb hHeld.2.2.2.1, keepC hb hHeld.2.2.2.2.1, keepC hb hHeld.2.2.2.2.2.1, keepC hb hHeld.2.2.2.2.2.2.1, keepC hb hHeld.2.2.2.2.2.2.2.1, keepC hb hHeld.2.2.2.2.2.2.2.2.1, keepC hb hHeld.2.2.2.2.2.2.2.2.2.1, keepC hb hHeld.2.2.2.2.2.2.2.2.2.2.1, keepC hb hHeld.2.2.2.2.2.2.2.2.2.2.2⟩ (fun hNext => ?_)
      clear hHeld hK K
      have hHeld := hNext
      clear hNext
      try simp only [Act.put, List.setIfInBounds_toArray, List.set_cons_zero, List.set_cons_succ]
      refine wpAnyH_take (i := 31) (v := ?_) (by simp only [List.getElem?_toArray, List.getElem?_cons_zero, List.getElem?_cons_succ]; rfl) (by kernel_rfl) (by kernel_rfl) (by kernel_rfl) (by exact fun _ _ _ h => h) (Or.inl ⟨by rfl, ?_⟩) (by assumption) ?_
      rotate_left
      · (intro w' hSw; (try dsimp only at hSw); go_simp; try with_reducible rfl)
      try simp only [Act.put, List.setIfInBounds_toArray, List.set_cons_zero, List.set_cons_succ]
      refine wpAnyH_take (i := 32) (v := ?_) (by simp only [List.getElem?_toArray, List.getElem?_cons_zero, List.getElem?_cons_succ]; rfl) (by kernel_rfl) (by kernel_rfl) (by kernel_rfl) (by exact fun _ _ _ h => h) (Or.inl ⟨by rfl, ?_⟩) (by assumption) ?_
      rotate_left
      · (intro w' hSw; (try dsimp only at hSw); go_simp; try with_reducible rfl)
      try simp only [Act.put, List.setIfInBounds_toArray, List.set_cons_zero, List.set_cons_succ]
      refine wpAnyH_done (by kernel_rfl) ?_ _
      go_wp2
      go_returns
      exact ⟨rfl, after HJ2.out.bel hB⟩
    · 
      have Ba : Hid (hasB a0 a1 v = false) := ha
      have Bb : Hid (hasB b0 b1 v = true) := hbb
      have Bm : Hid (hasB m0 m1 v = false) := (by show _ = _; rw [F8.out, ha, hbb]; rfl)
      have Bj : Hid (hasB j0 j1 v = true) := F9.out (Or.inr hbb)
      clear ha hbb F8 F9
      refine wp_region_held_drew (S := fun w' => w'.cell? ⟨w.heap.size, 0, none⟩ = some (.int .i64 a0) ∧ w'.cell? ⟨w.heap.size, 1, none⟩ = some (.int .i64 a1) ∧ w'.cell? ⟨w.heap.size + 1, 0, none⟩ = some (.int .i64 b0) ∧ w'.cell? ⟨w.heap.size + 1, 1, none⟩ = some (.int .i64 b1) ∧ w'.cell? ⟨w.heap.size + 1 + 1, 0, none⟩ = some (.int .i64 c0) ∧ w'.cell? ⟨w.heap.size + 1 + 1, 1, none⟩ = some (.int .i64 c1) ∧ w'.cell? ⟨g9, 0, none⟩ = some (.int .i64 j0) ∧ w'.cell? ⟨g9, 1, none⟩ = some (.int .i64 j1) ∧ w'.cell? ⟨g10, 0, none⟩ = some (.int .i64 m0) ∧ w'.cell? ⟨g10, 1, none⟩ = some (.int .i64 m1) ∧ w'.cell? ⟨g11, 0, none⟩ = some (.int .i64 x0) ∧ w'.cell? ⟨g11, 1, none⟩ = some (.int .i64 x1)) (by kernel_rfl) hHeld (fun hNext => ?_)
      clear hHeld
      have hHeld := hNext
      clear hNext
      have hB2 := Below.drew hB
      clear hB
      have hB := hB2
      clear hB2
      refine wpAnyH_take (i := 0) (v := ?_) (by simp only [List.getElem?_toArray, List.getElem?_cons_zero, List.getElem?_cons_succ]; rfl) (by kernel_rfl) (by kernel_rfl) (by kernel_rfl) (by exact fun _ _ _ h => h) (Or.inl ⟨by rfl, ?_⟩) (by assumption) ?_
      rotate_left
      · (intro w' hSw; (try dsimp only at hSw); go_simp; try with_reducible rfl)
      try simp only [Act.put, List.setIfInBounds_toArray, List.set_cons_zero, List.set_cons_succ]
      refine wpAnyH_take (i := 1) (v := ?_) (by simp only [List.getElem?_toArray, List.getElem?_cons_zero, List.getElem?_cons_succ]; rfl) (by kernel_rfl) (by kernel_rfl) (by kernel_rfl) (by exact fun _ _ _ h => h) (Or.inl ⟨by rfl, ?_⟩) (by assumption) ?_
      rotate_left
      · (intro w' hSw; (try dsimp only at hSw); go_simp; try with_reducible rfl)
      try simp only [Act.put, List.setIfInBounds_toArray, List.set_cons_zero, List.set_cons_succ]
      refine wpAnyH_take (i := 3) (v := ?_) (by simp only [List.getElem?_toArray, List.getElem?_cons_zero, List.getElem?_cons_succ]; rfl) (by kernel_rfl) (by kernel_rfl) (by kernel_rfl) (by exact fun _ _ _ h => h) (Or.inl ⟨by rfl, ?_⟩) (by assumption) ?_
      rotate_left
      · (intro w' hSw; (try dsimp only at hSw); go_simp; try with_reducible rfl)
      try simp only [Act.put, List.setIfInBounds_toArray, List.set_cons_zero, List.set_cons_succ]
      refine wpAnyH_take (i := 4) (v := ?_) (by simp only [List.getElem?_toArray, List.getElem?_cons_zero, List.getElem?_cons_succ]; rfl) (by kernel_rfl) (by kernel_rfl) (by kernel_rfl) (by exact fun _ _ _ h => h) (Or.inl ⟨by rfl, ?_⟩) (by assumption) ?_
      rotate_left
      · (intro w' hSw; (try dsimp only at hSw); go_simp; try with_reducible rfl)
      try simp only [Act.put, List.setIfInBounds_toArray, List.set_cons_zero, List.set_cons_succ]
      refine wpAnyH_ready (rs := [2]) (by kernel_rfl) (by simp) ?_
      refine AllReadyH.cons (by simp only [List.getElem?_toArray, List.getElem?_cons_zero, List.getElem?_cons_succ]; rfl) (fun K hK => ?_) (AllReadyH.nil)
      go_simp
      refine (has_any _ _ _ _).mono ?_; rw [Bm.out]; rintro e w1 ⟨rfl, hb⟩
      have hB2 := after hB hb
      clear hB
      have hB := hB2
      clear hB2
      go_wp2_with fail
      refine hK.out _ _ ⟨keepC hb hHeld.1, keepC hb hHeld.2.1, keepC hb hHeld.2.2.1, keepC hb hHeld.2.2.2.1, keepC hb hHeld.2.2.2.2.1, keepC hb hHeld.2.2.2.2.2.1, keepC hb hHeld.2.2.2.2.2.2.1, keepC hb hHeld.2.2.2.2.2.2.2.1, keepC hb hHeld.2.2.2.2.2.2.2.2.1, keepC hb hHeld.2.2.2.2.2.2.2.2.2.1, keepC hb hHeld.2.2.2.2.2.2.2.2.2.2.1, keepC hb hHeld.2.2.2.2.2.2.2.2.2.2.2⟩ (fun hNext => ?_)
      clear hHeld hK K
      have hHeld := hNext
      clear hNext
      try simp only [Act.put, List.setIfInBounds_toArray, List.set_cons_zero, List.set_cons_succ]
      refine wpAnyH_ready (rs := [5]) (by kernel_rfl) (by simp) ?_
      refine AllReadyH.cons (by simp only [List.getElem?_toArray, List.getElem?_cons_zero, List.getElem?_cons_succ]; rfl) (fun K hK => ?_) (AllReadyH.nil)
      go_simp
      refine (has_any _ _ _ _).mono ?_; rw [Ba.out]; rintro e w1 ⟨rfl, hb⟩
      have hB2 := after hB hb
      clear hB
      have hB := hB2
      clear hB2
      go_wp2_with fail
      refine hK.out _ _ ⟨keepC hb hHeld.1, keepC hb hHeld.2.1, keepC hb hHeld.2.2.1, keepC hb hHeld.2.2.2.1, keepC hb hHeld.2.2.2.2.1, keepC hb hHeld.2.2.2.2.2.1, keepC hb hHeld.2.2.2.2.2.2.1, keepC hb hHeld.2.2.2.2.2.2.2.1, keepC hb hHeld.2.2.2.2.2.2.2.2.1, keepC hb hHeld.2.2.2.2.2.2.2.2.2.1, keepC hb hHeld.2.2.2.2.2.2.2.2.2.2.1, keepC hb hHeld.2.2.2.2.2.2.2.2.2.2.2⟩ (fun hNext => ?_)
      clear hHeld hK K
      have hHeld := hNext
      clear hNext
      try simp only [Act.put, List.setIfInBounds_toArray, List.set_cons_zero, List.set_cons_succ]
      refine wpAnyH_take (i := 6) (v := ?_) (by simp only [List.getElem?_toArray, List.getElem?_cons_zero, List.getElem?_cons_succ]; rfl) (by kernel_rfl) (by kernel_rfl) (by kernel_rfl) (by exact fun _ _ _ h => h) (Or.inl ⟨by rfl, ?_⟩) (by assumption) ?_
      rotate_left
      · (intro w' hSw; (try dsimp only at hSw); go_simp; try with_reducible rfl)
      try simp only [Act.put, List.setIfInBounds_toArray, List.set_cons_zero, List.set_cons_succ]
      refine wpAnyH_take (i := 7) (v := undef) (by simp only [List.getElem?_toArray, List.getElem?_cons_zero, List.getElem?_cons_succ]; rfl) (by kernel_rfl) (by kernel_rfl) (by kernel_rfl) (by exact fun _ _ _ h => h) (Or.inr ⟨by rfl, rfl⟩) (by assumption) ?_
      try simp only [Act.put, List.setIfInBounds_toArray, List.set_cons_zero, List.set_cons_succ]
      refine wpAnyH_take (i := 8) (v := undef) (by simp only [List.getElem?_toArray, List.getElem?_cons_zero, List.getElem?_cons_succ]; rfl) (by kernel_rfl) (by kernel_rfl) (by kernel_rfl) (by exact fun _ _ _ h => h) (Or.inr ⟨by rfl, rfl⟩) (by assumption) ?_
      try simp only [Act.put, List.setIfInBounds_toArray, List.set_cons_zero, List.set_cons_succ]
      refine wpAnyH_take (i := 9) (v := undef) (by simp only [List.getElem?_toArray, List.getElem?_cons_zero, List.getElem?_cons_succ]; rfl) (by kernel_rfl) (by kernel_rfl) (by kernel_rfl) (by exact fun _ _ _ h => h) (Or.inr ⟨by rfl, rfl⟩) (by assumption) ?_
      try simp only [Act.put, List.setIfInBounds_toArray, List.set_cons_zero, List.set_cons_succ]
      refine wpAnyH_take (i := 10) (v := ?_) (by simp only [List.getElem?_toArray, List.getElem?_cons_zero, List.getElem?_cons_succ]; rfl) (by kernel_rfl) (by kernel_rfl) (by kernel_rfl) (by exact fun _ _ _ h => h) (Or.inl ⟨by rfl, ?_⟩) (by assumption) ?_
      rotate_left
      · (intro w' hSw; (try dsimp only at hSw); go_simp; try with_reducible rfl)
      try simp only [Act.put, List.setIfInBounds_toArray, List.set_cons_zero, List.set_cons_succ]
      refine wpAnyH_take (i := 11) (v := ?_) (by simp only [List.getElem?_toArray, List.getElem?_cons_zero, List.getElem?_cons_succ]; rfl) (by kernel_rfl) (by kernel_rfl) (by kernel_rfl) (by exact fun _ _ _ h => h) (Or.inl ⟨by rfl, ?_⟩) (by assumption) ?_
      rotate_left
      · (intro w' hSw; (try dsimp only at hSw); go_simp; try with_reducible rfl)
      try simp only [Act.put, List.setIfInBounds_toArray, List.set_cons_zero, List.set_cons_succ]
      refine wpAnyH_take (i := 12) (v := ?_) (by simp only [List.getElem?_toArray, List.getElem?_cons_zero, List.getElem?_cons_succ]; rfl) (by kernel_rfl) (by kernel_rfl) (by kernel_rfl) (by exact fun _ _ _ h => h) (Or.inl ⟨by rfl, ?_⟩) (by assumption) ?_
      rotate_left
      · (intro w' hSw; (try dsimp only at hSw); go_simp; try with_reducible rfl)
      try simp only [Act.put, List.setIfInBounds_toArray, List.set_cons_zero, List.set_cons_succ]
      refine wpAnyH_take (i := 13) (v := ?_) (by simp only [List.getElem?_toArray, List.getElem?_cons_zero, List.getElem?_cons_succ]; rfl) (by kernel_rfl) (by kernel_rfl) (by kernel_rfl) (by exact fun _ _ _ h => h) (Or.inl ⟨by rfl, ?_⟩) (by assumption) ?_
      rotate_left
      · (intro w' hSw; (try dsimp only at hSw); go_simp; try with_reducible rfl)
      try simp only [Act.put, List.setIfInBounds_toArray, List.set_cons_zero, List.set_cons_succ]
      refine wpAnyH_take (i := 14) (v := ?_) (by simp only [List.getElem?_toArray, List.getElem?_cons_zero, List.getElem?_cons_succ]; rfl) (by kernel_rfl) (by kernel_rfl) (by kernel_rfl) (by exact fun _ _ _ h => h) (Or.inl ⟨by rfl, ?_⟩) (by assumption) ?_
      rotate_left
      · (intro w' hSw; (try dsimp only at hSw); go_simp; try with_reducible rfl)
      try simp only [Act.put, List.setIfInBounds_toArray, List.set_cons_zero, List.set_cons_succ]
      refine wpAnyH_ready (rs := [15]) (by kernel_rfl) (by simp) ?_
      refine AllReadyH.cons (by simp only [List.getElem?_toArray, List.getElem?_cons_zero, List.getElem?_cons_succ]; rfl) (fun K hK => ?_) (AllReadyH.nil)
      go_simp
      refine (has_any _ _ _ _).mono ?_; rw [Ba.out]; rintro e w1 ⟨rfl, hb⟩
      have hB2 := after hB hb
      clear hB
      have hB := hB2
      clear hB2
      go_wp2_with fail
      refine hK.out _ _ ⟨keepC hb hHeld.1, keepC hb hHeld.2.1, keepC hb hHeld.2.2.1, keepC hb hHeld.2.2.2.1, keepC hb hHeld.2.2.2.2.1, keepC hb hHeld.2.2.2.2.2.1, keepC hb hHeld.2.2.2.2.2.2.1, keepC hb hHeld.2.2.2.2.2.2.2.1, keepC hb hHeld.2.2.2.2.2.2.2.2.1, keepC hb hHeld.2.2.2.2.2.2.2.2.2.1, keepC hb hHeld.2.2.2.2.2.2.2.2.2.2.1, keepC hb hHeld.2.2.2.2.2.2.2.2.2.2.2⟩ (fun hNext => ?_)
      clear hHeld hK K
      have hHeld := hNext
      clear hNext
      try simp only [Act.put, List.setIfInBounds_toArray, List.set_cons_zero, List.set_cons_succ]
      refine wpAnyH_take (i := 16) (v := ?_) (by simp only [List.getElem?_toArray, List.getElem?_cons_zero, List.getElem?_cons_succ]; rfl) (by kernel_rfl) (by kernel_rfl) (by kernel_rfl) (by exact fun _ _ _ h => h) (Or.inl ⟨by rfl, ?_⟩) (by assumption) ?_
      rotate_left
      · (intro w' hSw; (try dsimp only at hSw); go_simp; try with_reducible rfl)
      try simp only [Act.put, List.setIfInBounds_toArray, List.set_cons_zero, List.set_cons_succ]
      refine wpAnyH_take (i := 17) (v := ?_) (by simp only [List.getElem?_toArray, List.getElem?_cons_zero, List.getElem?_cons_succ]; rfl) (by kernel_rfl) (by kernel_rfl) (by kernel_rfl) (by exact fun _ _ _ h => h) (Or.inl ⟨by rfl, ?_⟩) (by assumption) ?_
      rotate_left
      · (intro w' hSw; (try dsimp only at hSw); go_simp; try with_reducible rfl)
      try simp only [Act.put, List.setIfInBounds_toArray, List.set_cons_zero, List.set_cons_succ]
      refine wpAnyH_take (i := 18) (v := ?_) (by simp only [List.getElem?_toArray, List.getElem?_cons_zero, List.getElem?_cons_succ]; rfl) (by kernel_rfl) (by kernel_rfl) (by kernel_rfl) (by exact fun _ _ _ h => h) (Or.inl ⟨by rfl, ?_⟩) (by assumption) ?_
      rotate_left
      · (intro w' hSw; (try dsimp only at hSw); go_simp; try with_reducible rfl)
      try simp only [Act.put, List.setIfInBounds_toArray, List.set_cons_zero, List.set_cons_succ]
      refine wpAnyH_take (i := 19) (v := ?_) (by simp only [List.getElem?_toArray, List.getElem?_cons_zero, List.getElem?_cons_succ]; rfl) (by kernel_rfl) (by kernel_rfl) (by kernel_rfl) (by exact fun _ _ _ h => h) (Or.inl ⟨by rfl, ?_⟩) (by assumption) ?_
      rotate_left
      · (intro w' hSw; (try dsimp only at hSw); go_simp; try with_reducible rfl)
      try simp only [Act.put, List.setIfInBounds_toArray, List.set_cons_zero, List.set_cons_succ]
      refine wpAnyH_ready (rs := [20]) (by kernel_rfl) (by simp) ?_
      refine AllReadyH.cons (by simp only [List.getElem?_toArray, List.getElem?_cons_zero, List.getElem?_cons_succ]; rfl) (fun K hK => ?_) (AllReadyH.nil)
      go_simp
      refine (has_any _ _ _ _).mono ?_; rw [Bb.out]; rintro e w1 ⟨rfl, hb⟩
      have hB2 := after hB hb
      clear hB
      have hB := hB2
      clear hB2
      go_wp2_with fail
      refine hK.out _ _ ⟨keepC hb hHeld.1, keepC hb hHeld.2.1, keepC hb hHeld.2.2.1, keepC hb hHeld.2.2.2.1, keepC hb hHeld.2.2.2.2.1, keepC hb hHeld.2.2.2.2.2.1, keepC hb hHeld.2.2.2.2.2.2.1, keepC hb hHeld.2.2.2.2.2.2.2.1, keepC hb hHeld.2.2.2.2.2.2.2.2.1, keepC hb hHeld.2.2.2.2.2.2.2.2.2.1, keepC hb hHeld.2.2.2.2.2.2.2.2.2.2.1, keepC hb hHeld.2.2.2.2.2.2.2.2.2.2.2⟩ (fun hNext => ?_)
      clear hHeld hK K
      have hHeld := hNext
      clear hNext
      try simp only [Act.put, List.setIfInBounds_toArray, List.set_cons_zero, List.set_cons_succ]
      refine wpAnyH_take (i := 21) (v := ?_) (by simp only [List.getElem?_toArray, List.getElem?_cons_zero, List.getElem?_cons_succ]; rfl) (by kernel_rfl) (by kernel_rfl) (by kernel_rfl) (by exact fun _ _ _ h => h) (Or.inl ⟨by rfl, ?_⟩) (by assumption) ?_
      rotate_left
      · (intro w' hSw; (try dsimp only at hSw); go_simp; try with_reducible rfl)
      try simp only [Act.put, List.setIfInBounds_toArray, List.set_cons_zero, List.set_cons_succ]
      refine wpAnyH_take (i := 22) (v := ?_) (by simp only [List.getElem?_toArray, List.getElem?_cons_zero, List.getElem?_cons_succ]; rfl) (by kernel_rfl) (by kernel_rfl) (by kernel_rfl) (by exact fun _ _ _ h => h) (Or.inl ⟨by rfl, ?_⟩) (by assumption) ?_
      rotate_left
      · (intro w' hSw; (try dsimp only at hSw); go_simp; try with_reducible rfl)
      try simp only [Act.put, List.setIfInBounds_toArray, List.set_cons_zero, List.set_cons_succ]
      refine wpAnyH_take (i := 23) (v := ?_) (by simp only [List.getElem?_toArray, List.getElem?_cons_zero, List.getElem?_cons_succ]; rfl) (by kernel_rfl) (by kernel_rfl) (by kernel_rfl) (by exact fun _ _ _ h => h) (Or.inl ⟨by rfl, ?_⟩) (by assumption) ?_
      rotate_left
      · (intro w' hSw; (try dsimp only at hSw); go_simp; try with_reducible rfl)
      try simp only [Act.put, List.setIfInBounds_toArray, List.set_cons_zero, List.set_cons_succ]
      refine wpAnyH_take (i := 24) (v := ?_) (by simp only [List.getElem?_toArray, List.getElem?_cons_zero, List.getElem?_cons_succ]; rfl) (by kernel_rfl) (by kernel_rfl) (by kernel_rfl) (by exact fun _ _ _ h => h) (Or.inl ⟨by rfl, ?_⟩) (by assumption) ?_
      rotate_left
      · (intro w' hSw; (try dsimp only at hSw); go_simp; try with_reducible rfl)
      try simp only [Act.put, List.setIfInBounds_toArray, List.set_cons_zero, List.set_cons_succ]
      refine wpAnyH_take (i := 25) (v := ?_) (by simp only [List.getElem?_toArray, List.getElem?_cons_zero, List.getElem?_cons_succ]; rfl) (by kernel_rfl) (by kernel_rfl) (by kernel_rfl) (by exact fun _ _ _ h => h) (Or.inl ⟨by rfl, ?_⟩) (by assumption) ?_
      rotate_left
      · (intro w' hSw; (try dsimp only at hSw); go_simp; try with_reducible rfl)
      try simp only [Act.put, List.setIfInBounds_toArray, List.set_cons_zero, List.set_cons_succ]
      refine wpAnyH_ready (rs := [26]) (by kernel_rfl) (by simp) ?_
      refine AllReadyH.cons (by simp only [List.getElem?_toArray, List.getElem?_cons_zero, List.getElem?_cons_succ]; rfl) (fun K hK => ?_) (AllReadyH.nil)
      go_simp
      refine (has_any _ _ _ _).mono ?_; rw [Bj.out]; rintro e w1 ⟨rfl, hb⟩
      have hB2 := after hB hb
      clear hB
      have hB := hB2
      clear hB2
      go_wp2_with fail
      refine hK.out _ _ ⟨keepC hb hHeld.1, keepC hb hHeld.2.1, keepC hb hHeld.2.2.1, keepC hb hHeld.2.2.2.1, keepC hb hHeld.2.2.2.2.1, keepC hb hHeld.2.2.2.2.2.1, keepC hb hHeld.2.2.2.2.2.2.1, keepC hb hHeld.2.2.2.2.2.2.2.1, keepC hb hHeld.2.2.2.2.2.2.2.2.1, keepC hb hHeld.2.2.2.2.2.2.2.2.2.1, keepC hb hHeld.2.2.2.2.2.2.2.2.2.2.1, keepC hb hHeld.2.2.2.2.2.2.2.2.2.2.2⟩ (fun hNext => ?_)
      clear hHeld hK K
      have hHeld := hNext
      clear hNext
      try simp only [Act.put, List.setIfInBounds_toArray, List.set_cons_zero, List.set_cons_succ]
      refine wpAnyH_take (i := 27) (v := ?_) (by simp only [List.getElem?_toArray, List.getElem?_cons_zero, List.getElem?_cons_succ]; rfl) (by kernel_rfl) (by kernel_rfl) (by kernel_rfl) (by exact fun _ _ _ h => h) (Or.inl ⟨by rfl, ?_⟩) (by assumption) ?_
      rotate_left
      · (intro w' hSw; (try dsimp only at hSw); go_simp; try with_reducible rfl)
      try simp only [Act.put, List.setIfInBounds_toArray, List.set_cons_zero, List.set_cons_succ]
      refine wpAnyH_take (i := 28) (v := ?_) (by simp only [List.getElem?_toArray, List.getElem?_cons_zero, List.getElem?_cons_succ]; rfl) (by kernel_rfl) (by kernel_rfl) (by kernel_rfl) (by exact fun _ _ _ h => h) (Or.inl ⟨by rfl, ?_⟩) (by assumption) ?_
      rotate_left
      · (intro w' hSw; (try dsimp only at hSw); go_simp; try with_reducible rfl)
      try simp only [Act.put, List.setIfInBounds_toArray, List.set_cons_zero, List.set_cons_succ]
      refine wpAnyH_take (i := 29) (v := ?_) (by simp only [List.getElem?_toArray, List.getElem?_cons_zero, List.getElem?_cons_succ]; rfl) (by kernel_rfl) (by kernel_rfl) (by kernel_rfl) (by exact fun _ _ _ h => h) (Or.inl ⟨by rfl, ?_⟩) (by assumption) ?_
      rotate_left
      · (intro w' hSw; (try dsimp only at hSw); go_simp; try with_reducible rfl)
      try simp only [Act.put, List.setIfInBounds_toArray, List.set_cons_zero, List.set_cons_succ]
      refine wpAnyH_ready (rs := [30]) (by kernel_rfl) (by simp) ?_
      refine AllReadyH.cons (by simp only [List.getElem?_toArray, List.getElem?_cons_zero, List.getElem?_cons_succ]; rfl) (fun K hK => ?_) (AllReadyH.nil)
      go_simp
      refine (head_true _ (HL.out.after (after HJ2.out.bel hB))).mono ?_; rintro e w1 ⟨rfl, hb⟩
      have hB2 := after hB hb
      clear hB
      have hB := hB2
      clear hB2
      go_wp2_with fail
      refine hK.out _ _ ⟨keepC hb hHeld.1, keepC hb hHeld.2.1, keepC hb hHeld.2.2.1, keepC hb hHeld.2.2.2.1, keepC hb hHeld.2.2.2.2.1, keepC hb hHeld.2.2.2.2.2.1, keepC hb hHeld.2.2.2.2.2.2.1, keepC hb hHeld.2.2.2.2.2.2.2.1, keepC hb hHeld.2.2.2.2.2.2.2.2.1, keepC hb hHeld.2.2.2.2.2.2.2.2.2.1, keepC hb hHeld.2.2.2.2.2.2.2.2.2.2.1, keepC hb hHeld.2.2.2.2.2.2.2.2.2.2.2⟩ (fun hNext => ?_)
      clear hHeld hK K
      have hHeld := hNext
      clear hNext
      try simp only [Act.put, List.setIfInBounds_toArray, List.set_cons_zero, List.set_cons_succ]
      refine wpAnyH_take (i := 31) (v := ?_) (by simp only [List.getElem?_toArray, List.getElem?_cons_zero, List.getElem?_cons_succ]; rfl) (by kernel_rfl) (by kernel_rfl) (by kernel_rfl) (by exact fun _ _ _ h => h) (Or.inl ⟨by rfl, ?_⟩) (by assumption) ?_
      rotate_left
      · (intro w' hSw; (try dsimp only at hSw); go_simp; try with_reducible rfl)
      try simp only [Act.put, List.setIfInBounds_toArray, List.set_cons_zero, List.set_cons_succ]
      refine wpAnyH_take (i := 32) (v := ?_) (by simp only [List.getElem?_toArray, List.getElem?_cons_zero, List.getElem?_cons_succ]; rfl) (by kernel_rfl) (by kernel_rfl) (by kernel_rfl) (by exact fun _ _ _ h => h) (Or.inl ⟨by rfl, ?_⟩) (by assumption) ?_
      rotate_left
      · (intro w' hSw; (try dsimp only at hSw); go_simp; try with_reducible rfl)
      try simp only [Act.put, List.setIfInBounds_toArray, List.set_cons_zero, List.set_cons_succ]
      refine wpAnyH_done (by kernel_rfl) ?_ _
      go_wp2
      go_returns
      exact ⟨rfl, after HJ2.out.bel hB⟩
    · 
      have Ba : Hid (hasB a0 a1 v = true) := ha
      have Bb : Hid (hasB b0 b1 v = false) := hbb
      have Bm : Hid (hasB m0 m1 v = false) := (by show _ = _; rw [F8.out, ha, hbb]; rfl)
      have Bj : Hid (hasB j0 j1 v = true) := F9.out (Or.inl ha)
      clear ha hbb F8 F9
      refine wp_region_held_drew (S := fun w' => w'.cell? ⟨w.heap.size, 0, none⟩ = some (.int .i64 a0) ∧ w'.cell? ⟨w.heap.size, 1, none⟩ = some (.int .i64 a1) ∧ w'.cell? ⟨w.heap.size + 1, 0, none⟩ = some (.int .i64 b0) ∧ w'.cell? ⟨w.heap.size + 1, 1, none⟩ = some (.int .i64 b1) ∧ w'.cell? ⟨w.heap.size + 1 + 1, 0, none⟩ = some (.int .i64 c0) ∧ w'.cell? ⟨w.heap.size + 1 + 1, 1, none⟩ = some (.int .i64 c1) ∧ w'.cell? ⟨g9, 0, none⟩ = some (.int .i64 j0) ∧ w'.cell? ⟨g9, 1, none⟩ = some (.int .i64 j1) ∧ w'.cell? ⟨g10, 0, none⟩ = some (.int .i64 m0) ∧ w'.cell? ⟨g10, 1, none⟩ = some (.int .i64 m1) ∧ w'.cell? ⟨g11, 0, none⟩ = some (.int .i64 x0) ∧ w'.cell? ⟨g11, 1, none⟩ = some (.int .i64 x1)) (by kernel_rfl) hHeld (fun hNext => ?_)
      clear hHeld
      have hHeld := hNext
      clear hNext
      have hB2 := Below.drew hB
      clear hB
      have hB := hB2
      clear hB2
      refine wpAnyH_take (i := 0) (v := ?_) (by simp only [List.getElem?_toArray, List.getElem?_cons_zero, List.getElem?_cons_succ]; rfl) (by kernel_rfl) (by kernel_rfl) (by kernel_rfl) (by exact fun _ _ _ h => h) (Or.inl ⟨by rfl, ?_⟩) (by assumption) ?_
      rotate_left
      · (intro w' hSw; (try dsimp only at hSw); go_simp; try with_reducible rfl)
      try simp only [Act.put, List.setIfInBounds_toArray, List.set_cons_zero, List.set_cons_succ]
      refine wpAnyH_take (i := 1) (v := ?_) (by simp only [List.getElem?_toArray, List.getElem?_cons_zero, List.getElem?_cons_succ]; rfl) (by kernel_rfl) (by kernel_rfl) (by kernel_rfl) (by exact fun _ _ _ h => h) (Or.inl ⟨by rfl, ?_⟩) (by assumption) ?_
      rotate_left
      · (intro w' hSw; (try dsimp only at hSw); go_simp; try with_reducible rfl)
      try simp only [Act.put, List.setIfInBounds_toArray, List.set_cons_zero, List.set_cons_succ]
      refine wpAnyH_take (i := 3) (v := ?_) (by simp only [List.getElem?_toArray, List.getElem?_cons_zero, List.getElem?_cons_succ]; rfl) (by kernel_rfl) (by kernel_rfl) (by kernel_rfl) (by exact fun _ _ _ h => h) (Or.inl ⟨by rfl, ?_⟩) (by assumption) ?_
      rotate_left
      · (intro w' hSw; (try dsimp only at hSw); go_simp; try with_reducible rfl)
      try simp only [Act.put, List.setIfInBounds_toArray, List.set_cons_zero, List.set_cons_succ]
      refine wpAnyH_take (i := 4) (v := ?_) (by simp only [List.getElem?_toArray, List.getElem?_cons_zero, List.getElem?_cons_succ]; rfl) (by kernel_rfl) (by kernel_rfl) (by kernel_rfl) (by exact fun _ _ _ h => h) (Or.inl ⟨by rfl, ?_⟩) (by assumption) ?_
      rotate_left
      · (intro w' hSw; (try dsimp only at hSw); go_simp; try with_reducible rfl)
      try simp only [Act.put, List.setIfInBounds_toArray, List.set_cons_zero, List.set_cons_succ]
      refine wpAnyH_ready (rs := [2]) (by kernel_rfl) (by simp) ?_
      refine AllReadyH.cons (by simp only [List.getElem?_toArray, List.getElem?_cons_zero, List.getElem?_cons_succ]; rfl) (fun K hK => ?_) (AllReadyH.nil)
      go_simp
      refine (has_any _ _ _ _).mono ?_; rw [Bm.out]; rintro e w1 ⟨rfl, hb⟩
      have hB2 := after hB hb
      clear hB
      have hB := hB2
      clear hB2
      go_wp2_with fail
      refine hK.out _ _ ⟨keepC hb hHeld.1, keepC hb hHeld.2.1, keepC hb hHeld.2.2.1, keepC hb hHeld.2.2.2.1, keepC hb hHeld.2.2.2.2.1, keepC hb hHeld.2.2.2.2.2.1, keepC hb hHeld.2.2.2.2.2.2.1, keepC hb hHeld.2.2.2.2.2.2.2.1, keepC hb hHeld.2.2.2.2.2.2.2.2.1, keepC hb hHeld.2.2.2.2.2.2.2.2.2.1, keepC hb hHeld.2.2.2.2.2.2.2.2.2.2.1, keepC hb hHeld.2.2.2.2.2.2.2.2.2.2.2⟩ (fun hNext => ?_)
      clear hHeld hK K
      have hHeld := hNext
      clear hNext
      try simp only [Act.put, List.setIfInBounds_toArray, List.set_cons_zero, List.set_cons_succ]
      refine wpAnyH_ready (rs := [5]) (by kernel_rfl) (by simp) ?_
      refine AllReadyH.cons (by simp only [List.getElem?_toArray, List.getElem?_cons_zero, List.getElem?_cons_succ]; rfl) (fun K hK => ?_) (AllReadyH.nil)
      go_simp
      refine (has_any _ _ _ _).mono ?_; rw [Ba.out]; rintro e w1 ⟨rfl, hb⟩
      have hB2 := after hB hb
      clear hB
      have hB := hB2
      clear hB2
      go_wp2_with fail
      refine hK.out _ _ ⟨keepC hb hHeld.1, keepC hb hHeld.2.1, keepC hb hHeld.2.2.1, keepC hb hHeld.2.2.2.1, keepC hb hHeld.2.2.2.2.1, keepC hb hHeld.2.2.2.2.2.1, keepC hb hHeld.2.2.2.2.2.2.1, keepC hb hHeld.2.2.2.2.2.2.2.1, keepC hb hHeld.2.2.2.2.2.2.2.2.1, keepC hb hHeld.2.2.2.2.2.2.2.2.2.1, keepC hb hHeld.2.2.2.2.2.2.2.2.2.2.1, keepC hb hHeld.2.2.2.2.2.2.2.2.2.2.2⟩ (fun hNext => ?_)
      clear hHeld hK K
      have hHeld := hNext
      clear hNext
      try simp only [Act.put, List.setIfInBounds_toArray, List.set_cons_zero, List.set_cons_succ]
      refine wpAnyH_take (i := 6) (v := ?_) (by simp only [List.getElem?_toArray, List.getElem?_cons_zero, List.getElem?_cons_succ]; rfl) (by kernel_rfl) (by kernel_rfl) (by kernel_rfl) (by exact fun _ _ _ h => h) (Or.inl ⟨by rfl, ?_⟩) (by assumption) ?_
      rotate_left
      · (intro w' hSw; (try dsimp only at hSw); go_simp; try with_reducible rfl)
      try simp only [Act.put, List.setIfInBounds_toArray, List.set_cons_zero, List.set_cons_succ]
      refine wpAnyH_take (i := 7) (v := ?_) (by simp only [List.getElem?_toArray, List.getElem?_cons_zero, List.getElem?_cons_succ]; rfl) (by kernel_rfl) (by kernel_rfl) (by kernel_rfl) (by exact fun _ _ _ h => h) (Or.inl ⟨by rfl, ?_⟩) (by assumption) ?_
      rotate_left
      · (intro w' hSw; (try dsimp only at hSw); go_simp; try with_reducible rfl)
      try simp only [Act.put, List.setIfInBounds_toArray, List.set_cons_zero, List.set_cons_succ]
      refine wpAnyH_take (i := 8) (v := ?_) (by simp only [List.getElem?_toArray, List.getElem?_cons_zero, List.getElem?_cons_succ]; rfl) (by kernel_rfl) (by kernel_rfl) (by kernel_rfl) (by exact fun _ _ _ h => h) (Or.inl ⟨by rfl, ?_⟩) (by assumption) ?_
      rotate_left
      · (intro w' hSw; (try dsimp only at hSw); go_simp; try with_reducible rfl)
      try simp only [Act.put, List.setIfInBounds_toArray, List.set_cons_zero, List.set_cons_succ]
      refine wpAnyH_ready (rs := [9]) (by kernel_rfl) (by simp) ?_
      refine AllReadyH.cons (by simp only [List.getElem?_toArray, List.getElem?_cons_zero, List.getElem?_cons_succ]; rfl) (fun K hK => ?_) (AllReadyH.nil)
      go_simp
      refine (has_any _ _ _ _).mono ?_; rw [Bb.out]; rintro e w1 ⟨rfl, hb⟩
      have hB2 := after hB hb
      clear hB
      have hB := hB2
      clear hB2
      go_wp2_with fail
      refine hK.out _ _ ⟨keepC hb hHeld.1, keepC hb hHeld.2.1, keepC hb hHeld.2.2.1, keepC hb hHeld.2.2.2.1, keepC hb hHeld.2.2.2.2.1, keepC hb hHeld.2.2.2.2.2.1, keepC hb hHeld.2.2.2.2.2.2.1, keepC hb hHeld.2.2.2.2.2.2.2.1, keepC hb hHeld.2.2.2.2.2.2.2.2.1, keepC hb hHeld.2.2.2.2.2.2.2.2.2.1, keepC hb hHeld.2.2.2.2.2.2.2.2.2.2.1, keepC hb hHeld.2.2.2.2.2.2.2.2.2.2.2⟩ (fun hNext => ?_)
      clear hHeld hK K
      have hHeld := hNext
      clear hNext
      try simp only [Act.put, List.setIfInBounds_toArray, List.set_cons_zero, List.set_cons_succ]
      refine wpAnyH_take (i := 10) (v := ?_) (by simp only [List.getElem?_toArray, List.getElem?_cons_zero, List.getElem?_cons_succ]; rfl) (by kernel_rfl) (by kernel_rfl) (by kernel_rfl) (by exact fun _ _ _ h => h) (Or.inl ⟨by rfl, ?_⟩) (by assumption) ?_
      rotate_left
      · (intro w' hSw; (try dsimp only at hSw); go_simp; try with_reducible rfl)
      try simp only [Act.put, List.setIfInBounds_toArray, List.set_cons_zero, List.set_cons_succ]
      refine wpAnyH_take (i := 11) (v := ?_) (by simp only [List.getElem?_toArray, List.getElem?_cons_zero, List.getElem?_cons_succ]; rfl) (by kernel_rfl) (by kernel_rfl) (by kernel_rfl) (by exact fun _ _ _ h => h) (Or.inl ⟨by rfl, ?_⟩) (by assumption) ?_
      rotate_left
      · (intro w' hSw; (try dsimp only at hSw); go_simp; try with_reducible rfl)
      try simp only [Act.put, List.setIfInBounds_toArray, List.set_cons_zero, List.set_cons_succ]
      refine wpAnyH_take (i := 12) (v := ?_) (by simp only [List.getElem?_toArray, List.getElem?_cons_zero, List.getElem?_cons_succ]; rfl) (by kernel_rfl) (by kernel_rfl) (by kernel_rfl) (by exact fun _ _ _ h => h) (Or.inl ⟨by rfl, ?_⟩) (by assumption) ?_
      rotate_left
      · (intro w' hSw; (try dsimp only at hSw); go_simp; try with_reducible rfl)
      try simp only [Act.put, List.setIfInBounds_toArray, List.set_cons_zero, List.set_cons_succ]
      refine wpAnyH_take (i := 13) (v := ?_) (by simp only [List.getElem?_toArray, List.getElem?_cons_zero, List.getElem?_cons_succ]; rfl) (by kernel_rfl) (by kernel_rfl) (by kernel_rfl) (by exact fun _ _ _ h => h) (Or.inl ⟨by rfl, ?_⟩) (by assumption) ?_
      rotate_left
      · (intro w' hSw; (try dsimp only at hSw); go_simp; try with_reducible rfl)
      try simp only [Act.put, List.setIfInBounds_toArray, List.set_cons_zero, List.set_cons_succ]
      refine wpAnyH_take (i := 14) (v := ?_) (by simp only [List.getElem?_toArray, List.getElem?_cons_zero, List.getElem?_cons_succ]; rfl) (by kernel_rfl) (by kernel_rfl) (by kernel_rfl) (by exact fun _ _ _ h => h) (Or.inl ⟨by rfl, ?_⟩) (by assumption) ?_
      rotate_left
      · (intro w' hSw; (try dsimp only at hSw); go_simp; try with_reducible rfl)
      try simp only [Act.put, List.setIfInBounds_toArray, List.set_cons_zero, List.set_cons_succ]
      refine wpAnyH_ready (rs := [15]) (by kernel_rfl) (by simp) ?_
      refine AllReadyH.cons (by simp only [List.getElem?_toArray, List.getElem?_cons_zero, List.getElem?_cons_succ]; rfl) (fun K hK => ?_) (AllReadyH.nil)
      go_simp
      refine (has_any _ _ _ _).mono ?_; rw [Ba.out]; rintro e w1 ⟨rfl, hb⟩
      have hB2 := after hB hb
      clear hB
      have hB := hB2
      clear hB2
      go_wp2_with fail
      refine hK.out _ _ ⟨keepC hb hHeld.1, keepC hb hHeld.2.1, keepC hb hHeld.2.2.1, keepC hb hHeld.2.2.2.1, keepC hb hHeld.2.2.2.2.1, keepC hb hHeld.2.2.2.2.2.1, keepC hb hHeld.2.2.2.2.2.2.1, keepC hb hHeld.2.2.2.2.2.2.2.1, keepC hb hHeld.2.2.2.2.2.2.2.2.1, keepC hb hHeld.2.2.2.2.2.2.2.2.2.1, keepC hb hHeld.2.2.2.2.2.2.2.2.2.2.1, keepC hb hHeld.2.2.2.2.2.2.2.2.2.2.2⟩ (fun hNext => ?_)
      clear hHeld hK K
      have hHeld := hNext
      clear hNext
      try simp only [Act.put, List.setIfInBounds_toArray, List.set_cons_zero, List.set_cons_succ]
      refine wpAnyH_take (i := 16) (v := ?_) (by simp only [List.getElem?_toArray, List.getElem?_cons_zero, List.getElem?_cons_succ]; rfl) (by kernel_rfl) (by kernel_rfl) (by kernel_rfl) (by exact fun _ _ _ h => h) (Or.inl ⟨by rfl, ?_⟩) (by assumption) ?_
      rotate_left
      · (intro w' hSw; (try dsimp only at hSw); go_simp; try with_reducible rfl)
      try simp only [Act.put, List.setIfInBounds_toArray, List.set_cons_zero, List.set_cons_succ]
      refine wpAnyH_take (i := 17) (v := ?_) (by simp only [List.getElem?_toArray, List.getElem?_cons_zero, List.getElem?_cons_succ]; rfl) (by kernel_rfl) (by kernel_rfl) (by kernel_rfl) (by exact fun _ _ _ h => h) (Or.inl ⟨by rfl, ?_⟩) (by assumption) ?_
      rotate_left
      · (intro w' hSw; (try dsimp only at hSw); go_simp; try with_reducible rfl)
      try simp only [Act.put, List.setIfInBounds_toArray, List.set_cons_zero, List.set_cons_succ]
      refine wpAnyH_take (i := 18) (v := undef) (by simp only [List.getElem?_toArray, List.getElem?_cons_zero, List.getElem?_cons_succ]; rfl) (by kernel_rfl) (by kernel_rfl) (by kernel_rfl) (by exact fun _ _ _ h => h) (Or.inr ⟨by rfl, rfl⟩) (by assumption) ?_
      try simp only [Act.put, List.setIfInBounds_toArray, List.set_cons_zero, List.set_cons_succ]
      refine wpAnyH_take (i := 19) (v := undef) (by simp only [List.getElem?_toArray, List.getElem?_cons_zero, List.getElem?_cons_succ]; rfl) (by kernel_rfl) (by kernel_rfl) (by kernel_rfl) (by exact fun _ _ _ h => h) (Or.inr ⟨by rfl, rfl⟩) (by assumption) ?_
      try simp only [Act.put, List.setIfInBounds_toArray, List.set_cons_zero, List.set_cons_succ]
      refine wpAnyH_take (i := 20) (v := undef) (by simp only [List.getElem?_toArray, List.getElem?_cons_zero, List.getElem?_cons_succ]; rfl) (by kernel_rfl) (by kernel_rfl) (by kernel_rfl) (by exact fun _ _ _ h => h) (Or.inr ⟨by rfl, rfl⟩) (by assumption) ?_
      try simp only [Act.put, List.setIfInBounds_toArray, List.set_cons_zero, List.set_cons_succ]
      refine wpAnyH_take (i := 21) (v := undef) (by simp only [List.getElem?_toArray, List.getElem?_cons_zero, List.getElem?_cons_succ]; rfl) (by kernel_rfl) (by kernel_rfl) (by kernel_rfl) (by exact fun _ _ _ h => h) (Or.inr ⟨by rfl, rfl⟩) (by assumption) ?_
      try simp only [Act.put, List.setIfInBounds_toArray, List.set_cons_zero, List.set_cons_succ]
      refine wpAnyH_take (i := 22) (v := ?_) (by simp only [List.getElem?_toArray, List.getElem?_cons_zero, List.getElem?_cons_succ]; rfl) (by kernel_rfl) (by kernel_rfl) (by kernel_rfl) (by exact fun _ _ _ h => h) (Or.inl ⟨by rfl, ?_⟩) (by assumption) ?_
      rotate_left
      · (intro w' hSw; (try dsimp only at hSw); go_simp; try with_reducible rfl)
      try simp only [Act.put, List.setIfInBounds_toArray, List.set_cons_zero, List.set_cons_succ]
      refine wpAnyH_take (i := 23) (v := ?_) (by simp only [List.getElem?_toArray, List.getElem?_cons_zero, List.getElem?_cons_succ]; rfl) (by kernel_rfl) (by kernel_rfl) (by kernel_rfl) (by exact fun _ _ _ h => h) (Or.inl ⟨by rfl, ?_⟩) (by assumption) ?_
      rotate_left
      · (intro w' hSw; (try dsimp only at hSw); go_simp; try with_reducible rfl)
      try simp only [Act.put, List.setIfInBounds_toArray, List.set_cons_zero, List.set_cons_succ]
      refine wpAnyH_take (i := 24) (v := ?_) (by simp only [List.getElem?_toArray, List.getElem?_cons_zero, List.getElem?_cons_succ]; rfl) (by kernel_rfl) (by kernel_rfl) (by kernel_rfl) (by exact fun _ _ _ h => h) (Or.inl ⟨by rfl, ?_⟩) (by assumption) ?_
      rotate_left
      · (intro w' hSw; (try dsimp only at hSw); go_simp; try with_reducible rfl)
      try simp only [Act.put, List.setIfInBounds_toArray, List.set_cons_zero, List.set_cons_succ]
      refine wpAnyH_take (i := 25) (v := ?_) (by simp only [List.getElem?_toArray, List.getElem?_cons_zero, List.getElem?_cons_succ]; rfl) (by kernel_rfl) (by kernel_rfl) (by kernel_rfl) (by exact fun _ _ _ h => h) (Or.inl ⟨by rfl, ?_⟩) (by assumption) ?_
      rotate_left
      · (intro w' hSw; (try dsimp only at hSw); go_simp; try with_reducible rfl)
      try simp only [Act.put, List.setIfInBounds_toArray, List.set_cons_zero, List.set_cons_succ]
      refine wpAnyH_ready (rs := [26]) (by kernel_rfl) (by simp) ?_
      refine AllReadyH.cons (by simp only [List.getElem?_toArray, List.getElem?_cons_zero, List.getElem?_cons_succ]; rfl) (fun K hK => ?_) (AllReadyH.nil)
      go_simp
      refine (has_any _ _ _ _).mono ?_; rw [Bj.out]; rintro e w1 ⟨rfl, hb⟩
      have hB2 := after hB hb
      clear hB
      have hB := hB2
      clear hB2
      go_wp2_with fail
      refine hK.out _ _ ⟨keepC hb hHeld.1, keepC hb hHeld.2.1, keepC hb hHeld.2.2.1, keepC hb hHeld.2.2.2.1, keepC hb hHeld.2.2.2.2.1, keepC hb hHeld.2.2.2.2.2.1, keepC hb hHeld.2.2.2.2.2.2.1, keepC hb hHeld.2.2.2.2.2.2.2.1, keepC hb hHeld.2.2.2.2.2.2.2.2.1, keepC hb hHeld.2.2.2.2.2.2.2.2.2.1, keepC hb hHeld.2.2.2.2.2.2.2.2.2.2.1, keepC hb hHeld.2.2.2.2.2.2.2.2.2.2.2⟩ (fun hNext => ?_)
      clear hHeld hK K
      have hHeld := hNext
      clear hNext
      try simp only [Act.put, List.setIfInBounds_toArray, List.set_cons_zero, List.set_cons_succ]
      refine wpAnyH_take (i := 27) (v := ?_) (by simp only [List.getElem?_toArray, List.getElem?_cons_zero, List.getElem?_cons_succ]; rfl) (by kernel_rfl) (by kernel_rfl) (by kernel_rfl) (by exact fun _ _ _ h => h) (Or.inl ⟨by rfl, ?_⟩) (by assumption) ?_
      rotate_left
      · (intro w' hSw; (try dsimp only at hSw); go_simp; try with_reducible rfl)
      try simp only [Act.put, List.setIfInBounds_toArray, List.set_cons_zero, List.set_cons_succ]
      refine wpAnyH_take (i := 28) (v := ?_) (by simp only [List.getElem?_toArray, List.getElem?_cons_zero, List.getElem?_cons_succ]; rfl) (by kernel_rfl) (by kernel_rfl) (by kernel_rfl) (by exact fun _ _ _ h => h) (Or.inl ⟨by rfl, ?_⟩) (by assumption) ?_
      rotate_left
      · (intro w' hSw; (try dsimp only at hSw); go_simp; try with_reducible rfl)
      try simp only [Act.put, List.setIfInBounds_toArray, List.set_cons_zero, List.set_cons_succ]
      refine wpAnyH_take (i := 29) (v := ?_) (by simp only [List.getElem?_toArray, List.getElem?_cons_zero, List.getElem?_cons_succ]; rfl) (by kernel_rfl) (by kernel_rfl) (by kernel_rfl) (by exact fun _ _ _ h => h) (Or.inl ⟨by rfl, ?_⟩) (by assumption) ?_
      rotate_left
      · (intro w' hSw; (try dsimp only at hSw); go_simp; try with_reducible rfl)
      try simp only [Act.put, List.setIfInBounds_toArray, List.set_cons_zero, List.set_cons_succ]
      refine wpAnyH_ready (rs := [30]) (by kernel_rfl) (by simp) ?_
      refine AllReadyH.cons (by simp only [List.getElem?_toArray, List.getElem?_cons_zero, List.getElem?_cons_succ]; rfl) (fun K hK => ?_) (AllReadyH.nil)
      go_simp
      refine (head_true _ (HL.out.after (after HJ2.out.bel hB))).mono ?_; rintro e w1 ⟨rfl, hb⟩
      have hB2 := after hB hb
      clear hB
      have hB := hB2
      clear hB2
      go_wp2_with fail
      refine hK.out _ _ ⟨keepC hb hHeld.1, keepC hb hHeld.2.1, keepC hb hHeld.2.2.1, keepC hb hHeld.2.2.2.1, keepC hb hHeld.2.2.2.2.1, keepC hb hHeld.2.2.2.2.2.1, keepC hb hHeld.2.2.2.2.2.2.1, keepC hb hHeld.2.2.2.2.2.2.2.1, keepC hb hHeld.2.2.2.2.2.2.2.2.1, keepC hb hHeld.2.2.2.2.2.2.2.2.2.1, keepC hb hHeld.2.2.2.2.2.2.2.2.2.2.1, keepC hb hHeld.2.2.2.2.2.2.2.2.2.2.2⟩ (fun hNext => ?_)
      clear hHeld hK K
      have hHeld := hNext
      clear hNext
      try simp only [Act.put, List.setIfInBounds_toArray, List.set_cons_zero, List.set_cons_succ]
      refine wpAnyH_take (i := 31) (v := ?_) (by simp only [List.getElem?_toArray, List.getElem?_cons_zero, List.getElem?_cons_succ]; rfl) (by kernel_rfl) (by kernel_rfl) (by kernel_rfl) (by exact fun _ _ _ h => h) (Or.inl ⟨by rfl, ?_⟩) (by assumption) ?_
      rotate_left
      · (intro w' hSw; (try dsimp only at hSw); go_simp; try with_reducible rfl)
      try simp only [Act.put, List.setIfInBounds_toArray, List.set_cons_zero, List.set_cons_succ]
      refine wpAnyH_take (i := 32) (v := ?_) (by simp only [List.getElem?_toArray, List.getElem?_cons_zero, List.getElem?_cons_succ]; rfl) (by kernel_rfl) (by kernel_rfl) (by kernel_rfl) (by exact fun _ _ _ h => h) (Or.inl ⟨by rfl, ?_⟩) (by assumption) ?_
      rotate_left
      · (intro w' hSw; (try dsimp only at hSw); go_simp; try with_reducible rfl)
      try simp only [Act.put, List.setIfInBounds_toArray, List.set_cons_zero, List.set_cons_succ]
      refine wpAnyH_done (by kernel_rfl) ?_ _
      go_wp2
      go_returns
      exact ⟨rfl, after HJ2.out.bel hB⟩
    · 
      have Ba : Hid (hasB a0 a1 v = true) := ha
      have Bb : Hid (hasB b0 b1 v = true) := hbb
      have Bm : Hid (hasB m0 m1 v = true) := (by show _ = _; rw [F8.out, ha, hbb]; rfl)
      have Bj : Hid (hasB j0 j1 v = true) := F9.out (Or.inl ha)
      clear ha hbb F8 F9
      refine wp_region_held_drew (S := fun w' => w'.cell? ⟨w.heap.size, 0, none⟩ = some (.int .i64 a0) ∧ w'.cell? ⟨w.heap.size, 1, none⟩ = some (.int .i64 a1) ∧ w'.cell? ⟨w.heap.size + 1, 0, none⟩ = some (.int .i64 b0) ∧ w'.cell? ⟨w.heap.size + 1, 1, none⟩ = some (.int .i64 b1) ∧ w'.cell? ⟨w.heap.size + 1 + 1, 0, none⟩ = some (.int .i64 c0) ∧ w'.cell? ⟨w.heap.size + 1 + 1, 1, none⟩ = some (.int .i64 c1) ∧ w'.cell? ⟨g9, 0, none⟩ = some (.int .i64 j0) ∧ w'.cell? ⟨g9, 1, none⟩ = some (.int .i64 j1) ∧ w'.cell? ⟨g10, 0, none⟩ = some (.int .i64 m0) ∧ w'.cell? ⟨g10, 1, none⟩ = some (.int .i64 m1) ∧ w'.cell? ⟨g11, 0, none⟩ = some (.int .i64 x0) ∧ w'.cell? ⟨g11, 1, none⟩ = some (.int .i64 x1)) (by kernel_rfl) hHeld (fun hNext => ?_)
      clear hHeld
      have hHeld := hNext
      clear hNext
      have hB2 := Below.drew hB
      clear hB
      have hB := hB2
      clear hB2
      refine wpAnyH_take (i := 0) (v := ?_) (by simp only [List.getElem?_toArray, List.getElem?_cons_zero, List.getElem?_cons_succ]; rfl) (by kernel_rfl) (by kernel_rfl) (by kernel_rfl) (by exact fun _ _ _ h => h) (Or.inl ⟨by rfl, ?_⟩) (by assumption) ?_
      rotate_left
      · (intro w' hSw; (try dsimp only at hSw); go_simp; try with_reducible rfl)
      try simp only [Act.put, List.setIfInBounds_toArray, List.set_cons_zero, List.set_cons_succ]
      refine wpAnyH_take (i := 1) (v := ?_) (by simp only [List.getElem?_toArray, List.getElem?_cons_zero, List.getElem?_cons_succ]; rfl) (by kernel_rfl) (by kernel_rfl) (by kernel_rfl) (by exact fun _ _ _ h => h) (Or.inl ⟨by rfl, ?_⟩) (by assumption) ?_
      rotate_left
      · (intro w' hSw; (try dsimp only at hSw); go_simp; try with_reducible rfl)
      try simp only [Act.put, List.setIfInBounds_toArray, List.set_cons_zero, List.set_cons_succ]
      refine wpAnyH_take (i := 3) (v := ?_) (by simp only [List.getElem?_toArray, List.getElem?_cons_zero, List.getElem?_cons_succ]; rfl) (by kernel_rfl) (by kernel_rfl) (by kernel_rfl) (by exact fun _ _ _ h => h) (Or.inl ⟨by rfl, ?_⟩) (by assumption) ?_
      rotate_left
      · (intro w' hSw; (try dsimp only at hSw); go_simp; try with_reducible rfl)
      try simp only [Act.put, List.setIfInBounds_toArray, List.set_cons_zero, List.set_cons_succ]
      refine wpAnyH_take (i := 4) (v := ?_) (by simp only [List.getElem?_toArray, List.getElem?_cons_zero, List.getElem?_cons_succ]; rfl) (by kernel_rfl) (by kernel_rfl) (by kernel_rfl) (by exact fun _ _ _ h => h) (Or.inl ⟨by rfl, ?_⟩) (by assumption) ?_
      rotate_left
      · (intro w' hSw; (try dsimp only at hSw); go_simp; try with_reducible rfl)
      try simp only [Act.put, List.setIfInBounds_toArray, List.set_cons_zero, List.set_cons_succ]
      refine wpAnyH_ready (rs := [2]) (by kernel_rfl) (by simp) ?_
      refine AllReadyH.cons (by simp only [List.getElem?_toArray, List.getElem?_cons_zero, List.getElem?_cons_succ]; rfl) (fun K hK => ?_) (AllReadyH.nil)
      go_simp
      refine (has_any _ _ _ _).mono ?_; rw [Bm.out]; rintro e w1 ⟨rfl, hb⟩
      have hB2 := after hB hb
      clear hB
      have hB := hB2
      clear hB2
      go_wp2_with fail
      refine hK.out _ _ ⟨keepC hb hHeld.1, keepC hb hHeld.2.1, keepC hb hHeld.2.2.1, keepC hb hHeld.2.2.2.1, keepC hb hHeld.2.2.2.2.1, keepC hb hHeld.2.2.2.2.2.1, keepC hb hHeld.2.2.2.2.2.2.1, keepC hb hHeld.2.2.2.2.2.2.2.1, keepC hb hHeld.2.2.2.2.2.2.2.2.1, keepC hb hHeld.2.2.2.2.2.2.2.2.2.1, keepC hb hHeld.2.2.2.2.2.2.2.2.2.2.1, keepC hb hHeld.2.2.2.2.2.2.2.2.2.2.2⟩ (fun hNext => ?_)
      clear hHeld hK K
      have hHeld := hNext
      clear hNext
      try simp only [Act.put, List.setIfInBounds_toArray, List.set_cons_zero, List.set_cons_succ]
      refine wpAnyH_ready (rs := [5]) (by kernel_rfl) (by simp) ?_
      refine AllReadyH.cons (by simp only [List.getElem?_toArray, List.getElem?_cons_zero, List.getElem?_cons_succ]; rfl) (fun K hK => ?_) (AllReadyH.nil)
      go_simp
      refine (has_any _ _ _ _).mono ?_; rw [Ba.out]; rintro e w1 ⟨rfl, hb⟩
      have hB2 := after hB hb
      clear hB
      have hB := hB2
      clear hB2
      go_wp2_with fail
      refine hK.out _ _ ⟨keepC hb hHeld.1, keepC hb hHeld.2.1, keepC hb hHeld.2.2.1, keepC hb hHeld.2.2.2.1, keepC hb hHeld.2.2.2.2.1, keepC hb hHeld.2.2.2.2.2.1, keepC hb hHeld.2.2.2.2.2.2.1, keepC hb hHeld.2.2.2.2.2.2.2.1, keepC hb hHeld.2.2.2.2.2.2.2.2.1, keepC hb hHeld.2.2.2.2.2.2.2.2.2.1, keepC hb hHeld.2.2.2.2.2.2.2.2.2.2.1, keepC hb hHeld.2.2.2.2.2.2.2.2.2.2.2⟩ (fun hNext => ?_)
      clear hHeld hK K
      have hHeld := hNext
      clear hNext
      try simp only [Act.put, List.setIfInBounds_toArray, List.set_cons_zero, List.set_cons_succ]
      refine wpAnyH_take (i := 6) (v := ?_) (by simp only [List.getElem?_toArray, List.getElem?_cons_zero, List.getElem?_cons_succ]; rfl) (by kernel_rfl) (by kernel_rfl) (by kernel_rfl) (by exact fun _ _ _ h => h) (Or.inl ⟨by rfl, ?_⟩) (by assumption) ?_
      rotate_left
      · (intro w' hSw; (try dsimp only at hSw); go_simp; try with_reducible rfl)
      try simp only [Act.put, List.setIfInBounds_toArray, List.set_cons_zero, List.set_cons_succ]
      refine wpAnyH_take (i := 7) (v := ?_) (by simp only [List.getElem?_toArray, List.getElem?_cons_zero, List.getElem?_cons_succ]; rfl) (by kernel_rfl) (by kernel_rfl) (by kernel_rfl) (by exact fun _ _ _ h => h) (Or.inl ⟨by rfl, ?_⟩) (by assumption) ?_
      rotate_left
      · (intro w' hSw; (try dsimp only at hSw); go_simp; try with_reducible rfl)
      try simp only [Act.put, List.setIfInBounds_toArray, List.set_cons_zero, List.set_cons_succ]
      refine wpAnyH_take (i := 8) (v := ?_) (by simp only [List.getElem?_toArray, List.getElem?_cons_zero, List.getElem?_cons_succ]; rfl) (by kernel_rfl) (by kernel_rfl) (by kernel_rfl) (by exact fun _ _ _ h => h) (Or.inl ⟨by rfl, ?_⟩) (by assumption) ?_
      rotate_left
      · (intro w' hSw; (try dsimp only at hSw); go_simp; try with_reducible rfl)
      try simp only [Act.put, List.setIfInBounds_toArray, List.set_cons_zero, List.set_cons_succ]
      refine wpAnyH_ready (rs := [9]) (by kernel_rfl) (by simp) ?_
      refine AllReadyH.cons (by simp only [List.getElem?_toArray, List.getElem?_cons_zero, List.getElem?_cons_succ]; rfl) (fun K hK => ?_) (AllReadyH.nil)
      go_simp
      refine (has_any _ _ _ _).mono ?_; rw [Bb.out]; rintro e w1 ⟨rfl, hb⟩
      have hB2 := after hB hb
      clear hB
      have hB := hB2
      clear hB2
      go_wp2_with fail
      refine hK.out _ _ ⟨keepC hb hHeld.1, keepC hb hHeld.2.1, keepC hb hHeld.2.2.1, keepC hb hHeld.2.2.2.1, keepC hb hHeld.2.2.2.2.1, keepC hb hHeld.2.2.2.2.2.1, keepC hb hHeld.2.2.2.2.2.2.1, keepC hb hHeld.2.2.2.2.2.2.2.1, keepC hb hHeld.2.2.2.2.2.2.2.2.1, keepC hb hHeld.2.2.2.2.2.2.2.2.2.1, keepC hb hHeld.2.2.2.2.2.2.2.2.2.2.1, keepC hb hHeld.2.2.2.2.2.2.2.2.2.2.2⟩ (fun hNext => ?_)
      clear hHeld hK K
      have hHeld := hNext
      clear hNext
      try simp only [Act.put, List.setIfInBounds_toArray, List.set_cons_zero, List.set_cons_succ]
      refine wpAnyH_take (i := 10) (v := ?_) (by simp only [List.getElem?_toArray, List.getElem?_cons_zero, List.getElem?_cons_succ]; rfl) (by kernel_rfl) (by kernel_rfl) (by kernel_rfl) (by exact fun _ _ _ h => h) (Or.inl ⟨by rfl, ?_⟩) (by assumption) ?_
      rotate_left
      · (intro w' hSw; (try dsimp only at hSw); go_simp; try with_reducible rfl)
      try simp only [Act.put, List.setIfInBounds_toArray, List.set_cons_zero, List.set_cons_succ]
      refine wpAnyH_take (i := 11) (v := ?_) (by simp only [List.getElem?_toArray, List.getElem?_cons_zero, List.getElem?_cons_succ]; rfl) (by kernel_rfl) (by kernel_rfl) (by kernel_rfl) (by exact fun _ _ _ h => h) (Or.inl ⟨by rfl, ?_⟩) (by assumption) ?_
      rotate_left
      · (intro w' hSw; (try dsimp only at hSw); go_simp; try with_reducible rfl)
      try simp only [Act.put, List.setIfInBounds_toArray, List.set_cons_zero, List.set_cons_succ]
      refine wpAnyH_take (i := 12) (v := ?_) (by simp only [List.getElem?_toArray, List.getElem?_cons_zero, List.getElem?_cons_succ]; rfl) (by kernel_rfl) (by kernel_rfl) (by kernel_rfl) (by exact fun _ _ _ h => h) (Or.inl ⟨by rfl, ?_⟩) (by assumption) ?_
      rotate_left
      · (intro w' hSw; (try dsimp only at hSw); go_simp; try with_reducible rfl)
      try simp only [Act.put, List.setIfInBounds_toArray, List.set_cons_zero, List.set_cons_succ]
      refine wpAnyH_take (i := 13) (v := ?_) (by simp only [List.getElem?_toArray, List.getElem?_cons_zero, List.getElem?_cons_succ]; rfl) (by kernel_rfl) (by kernel_rfl) (by kernel_rfl) (by exact fun _ _ _ h => h) (Or.inl ⟨by rfl, ?_⟩) (by assumption) ?_
      rotate_left
      · (intro w' hSw; (try dsimp only at hSw); go_simp; try with_reducible rfl)
      try simp only [Act.put, List.setIfInBounds_toArray, List.set_cons_zero, List.set_cons_succ]
      refine wpAnyH_take (i := 14) (v := ?_) (by simp only [List.getElem?_toArray, List.getElem?_cons_zero, List.getElem?_cons_succ]; rfl) (by kernel_rfl) (by kernel_rfl) (by kernel_rfl) (by exact fun _ _ _ h => h) (Or.inl ⟨by rfl, ?_⟩) (by assumption) ?_
      rotate_left
      · (intro w' hSw; (try dsimp only at hSw); go_simp; try with_reducible rfl)
      try simp only [Act.put, List.setIfInBounds_toArray, List.set_cons_zero, List.set_cons_succ]
      refine wpAnyH_ready (rs := [15]) (by kernel_rfl) (by simp) ?_
      refine AllReadyH.cons (by simp only [List.getElem?_toArray, List.getElem?_cons_zero, List.getElem?_cons_succ]; rfl) (fun K hK => ?_) (AllReadyH.nil)
      go_simp
      refine (has_any _ _ _ _).mono ?_; rw [Ba.out]; rintro e w1 ⟨rfl, hb⟩
      have hB2 := after hB hb
      clear hB
      have hB := hB2
      clear hB2
      go_wp2_with fail
      refine hK.out _ _ ⟨keepC hb hHeld.1, keepC hb hHeld.2.1, keepC hb hHeld.2.2.1, keepC hb hHeld.2.2.2.1, keepC hb hHeld.2.2.2.2.1, keepC hb hHeld.2.2.2.2.2.1, keepC hb hHeld.2.2.2.2.2.2.1, keepC hb hHeld.2.2.2.2.2.2.2.1, keepC hb hHeld.2.2.2.2.2.2.2.2.1, keepC hb hHeld.2.2.2.2.2.2.2.2.2.1, keepC hb hHeld.2.2.2.2.2.2.2.2.2.2.1, keepC hb hHeld.2.2.2.2.2.2.2.2.2.2.2⟩ (fun hNext => ?_)
      clear hHeld hK K
      have hHeld := hNext
      clear hNext
      try simp only [Act.put, List.setIfInBounds_toArray, List.set_cons_zero, List.set_cons_succ]
      refine wpAnyH_take (i := 16) (v := ?_) (by simp only [List.getElem?_toArray, List.getElem?_cons_zero, List.getElem?_cons_succ]; rfl) (by kernel_rfl) (by kernel_rfl) (by kernel_rfl) (by exact fun _ _ _ h => h) (Or.inl ⟨by rfl, ?_⟩) (by assumption) ?_
      rotate_left
      · (intro w' hSw; (try dsimp only at hSw); go_simp; try with_reducible rfl)
      try simp only [Act.put, List.setIfInBounds_toArray, List.set_cons_zero, List.set_cons_succ]
      refine wpAnyH_take (i := 17) (v := ?_) (by simp only [List.getElem?_toArray, List.getElem?_cons_zero, List.getElem?_cons_succ]; rfl) (by kernel_rfl) (by kernel_rfl) (by kernel_rfl) (by exact fun _ _ _ h => h) (Or.inl ⟨by rfl, ?_⟩) (by assumption) ?_
      rotate_left
      · (intro w' hSw; (try dsimp only at hSw); go_simp; try with_reducible rfl)
      try simp only [Act.put, List.setIfInBounds_toArray, List.set_cons_zero, List.set_cons_succ]
      refine wpAnyH_take (i := 18) (v := undef) (by simp only [List.getElem?_toArray, List.getElem?_cons_zero, List.getElem?_cons_succ]; rfl) (by kernel_rfl) (by kernel_rfl) (by kernel_rfl) (by exact fun _ _ _ h => h) (Or.inr ⟨by rfl, rfl⟩) (by assumption) ?_
      try simp only [Act.put, List.setIfInBounds_toArray, List.set_cons_zero, List.set_cons_succ]
      refine wpAnyH_take (i := 19) (v := undef) (by simp only [List.getElem?_toArray, List.getElem?_cons_zero, List.getElem?_cons_succ]; rfl) (by kernel_rfl) (by kernel_rfl) (by kernel_rfl) (by exact fun _ _ _ h => h) (Or.inr ⟨by rfl, rfl⟩) (by assumption) ?_
      try simp only [Act.put, List.setIfInBounds_toArray, List.set_cons_zero, List.set_cons_succ]
      refine wpAnyH_take (i := 20) (v := undef) (by simp only [List.getElem?_toArray, List.getElem?_cons_zero, List.getElem?_cons_succ]; rfl) (by kernel_rfl) (by kernel_rfl) (by kernel_rfl) (by exact fun _ _ _ h => h) (Or.inr ⟨by rfl, rfl⟩) (by assumption) ?_
      try simp only [Act.put, List.setIfInBounds_toArray, List.set_cons_zero, List.set_cons_succ]
      refine wpAnyH_take (i := 21) (v := undef) (by simp only [List.getElem?_toArray, List.getElem?_cons_zero, List.getElem?_cons_succ]; rfl) (by kernel_rfl) (by kernel_rfl) (by kernel_rfl) (by exact fun _ _ _ h => h) (Or.inr ⟨by rfl, rfl⟩) (by assumption) ?_
      try simp only [Act.put, List.setIfInBounds_toArray, List.set_cons_zero, List.set_cons_succ]
      refine wpAnyH_take (i := 22) (v := ?_) (by simp only [List.getElem?_toArray, List.getElem?_cons_zero, List.getElem?_cons_succ]; rfl) (by kernel_rfl) (by kernel_rfl) (by kernel_rfl) (by exact fun _ _ _ h => h) (Or.inl ⟨by rfl, ?_⟩) (by assumption) ?_
      rotate_left
      · (intro w' hSw; (try dsimp only at hSw); go_simp; try with_reducible rfl)
      try simp only [Act.put, List.setIfInBounds_toArray, List.set_cons_zero, List.set_cons_succ]
      refine wpAnyH_take (i := 23) (v := ?_) (by simp only [List.getElem?_toArray, List.getElem?_cons_zero, List.getElem?_cons_succ]; rfl) (by kernel_rfl) (by kernel_rfl) (by kernel_rfl) (by exact fun _ _ _ h => h) (Or.inl ⟨by rfl, ?_⟩) (by assumption) ?_
      rotate_left
      · (intro w' hSw; (try dsimp only at hSw); go_simp; try with_reducible rfl)
      try simp only [Act.put, List.setIfInBounds_toArray, List.set_cons_zero, List.set_cons_succ]
      refine wpAnyH_take (i := 24) (v := ?_) (by simp only [List.getElem?_toArray, List.getElem?_cons_zero, List.getElem?_cons_succ]; rfl) (by kernel_rfl) (by kernel_rfl) (by kernel_rfl) (by exact fun _ _ _ h => h) (Or.inl ⟨by rfl, ?_⟩) (by assumption) ?_
      rotate_left
      · (intro w' hSw; (try dsimp only at hSw); go_simp; try with_reducible rfl)
      try simp only [Act.put, List.setIfInBounds_toArray, List.set_cons_zero, List.set_cons_succ]
      refine wpAnyH_take (i := 25) (v := ?_) (by simp only [List.getElem?_toArray, List.getElem?_cons_zero, List.getElem?_cons_succ]; rfl) (by kernel_rfl) (by kernel_rfl) (by kernel_rfl) (by exact fun _ _ _ h => h) (Or.inl ⟨by rfl, ?_⟩) (by assumption) ?_
      rotate_left
      · (intro w' hSw; (try dsimp only at hSw); go_simp; try with_reducible rfl)
      try simp only [Act.put, List.setIfInBounds_toArray, List.set_cons_zero, List.set_cons_succ]
      refine wpAnyH_ready (rs := [26]) (by kernel_rfl) (by simp) ?_
      refine AllReadyH.cons (by simp only [List.getElem?_toArray, List.getElem?_cons_zero, List.getElem?_cons_succ]; rfl) (fun K hK => ?_) (AllReadyH.nil)
      go_simp
      refine (has_any _ _ _ _).mono ?_; rw [Bj.out]; rintro e w1 ⟨rfl, hb⟩
      have hB2 := after hB hb
      clear hB
      have hB := hB2
      clear hB2
      go_wp2_with fail
      refine hK.out _ _ ⟨keepC hb hHeld.1, keepC hb hHeld.2.1, keepC hb hHeld.2.2.1, keepC hb hHeld.2.2.2.1, keepC hb hHeld.2.2.2.2.1, keepC hb hHeld.2.2.2.2.2.1, keepC hb hHeld.2.2.2.2.2.2.1, keepC hb hHeld.2.2.2.2.2.2.2.1, keepC hb hHeld.2.2.2.2.2.2.2.2.1, keepC hb hHeld.2.2.2.2.2.2.2.2.2.1, keepC hb hHeld.2.2.2.2.2.2.2.2.2.2.1, keepC hb hHeld.2.2.2.2.2.2.2.2.2.2.2⟩ (fun hNext => ?_)
      clear hHeld hK K
      have hHeld := hNext
      clear hNext
      try simp only [Act.put, List.setIfInBounds_toArray, List.set_cons_zero, List.set_cons_succ]
      refine wpAnyH_take (i := 27) (v := ?_) (by simp only [List.getElem?_toArray, List.getElem?_cons_zero, List.getElem?_cons_succ]; rfl) (by kernel_rfl) (by kernel_rfl) (by kernel_rfl) (by exact fun _ _ _ h => h) (Or.inl ⟨by rfl, ?_⟩) (by assumption) ?_
      rotate_left
      · (intro w' hSw; (try dsimp only at hSw); go_simp; try with_reducible rfl)
      try simp only [Act.put, List.setIfInBounds_toArray, List.set_cons_zero, List.set_cons_succ]
      refine wpAnyH_take (i := 28) (v := ?_) (by simp only [List.getElem?_toArray, List.getElem?_cons_zero, List.getElem?_cons_succ]; rfl) (by kernel_rfl) (by kernel_rfl) (by kernel_rfl) (by exact fun _ _ _ h => h) (Or.inl ⟨by rfl, ?_⟩) (by assumption) ?_
      rotate_left
      · (intro w' hSw; (try dsimp only at hSw); go_simp; try with_reducible rfl)
      try simp only [Act.put, List.setIfInBounds_toArray, List.set_cons_zero, List.set_cons_succ]
      refine wpAnyH_take (i := 29) (v := ?_) (by simp only [List.getElem?_toArray, List.getElem?_cons_zero, List.getElem?_cons_succ]; rfl) (by kernel_rfl) (by kernel_rfl) (by kernel_rfl) (by exact fun _ _ _ h => h) (Or.inl ⟨by rfl, ?_⟩) (by assumption) ?_
      rotate_left
      · (intro w' hSw; (try dsimp only at hSw); go_simp; try with_reducible rfl)
      try simp only [Act.put, List.setIfInBounds_toArray, List.set_cons_zero, List.set_cons_succ]
      refine wpAnyH_ready (rs := [30]) (by kernel_rfl) (by simp) ?_
      refine AllReadyH.cons (by simp only [List.getElem?_toArray, List.getElem?_cons_zero, List.getElem?_cons_succ]; rfl) (fun K hK => ?_) (AllReadyH.nil)
      go_simp
      refine (head_true _ (HL.out.after (after HJ2.out.bel hB))).mono ?_; rintro e w1 ⟨rfl, hb⟩
      have hB2 := after hB hb
      clear hB
      have hB := hB2
      clear hB2
      go_wp2_with fail
      refine hK.out _ _ ⟨keepC hb hHeld.1, keepC hb hHeld.2.1, keepC hb hHeld.2.2.1, keepC hb hHeld.2.2.2.1, keepC hb hHeld.2.2.2.2.1, keepC hb hHeld.2.2.2.2.2.1, keepC hb hHeld.2.2.2.2.2.2.1, keepC hb hHeld.2.2.2.2.2.2.2.1, keepC hb hHeld.2.2.2.2.2.2.2.2.1, keepC hb hHeld.2.2.2.2.2.2.2.2.2.1, keepC hb hHeld.2.2.2.2.2.2.2.2.2.2.1, keepC hb hHeld.2.2.2.2.2.2.2.2.2.2.2⟩ (fun hNext => ?_)
      clear hHeld hK K
      have hHeld := hNext
      clear hNext
      try simp only [Act.put, List.setIfInBounds_toArray, List.set_cons_zero, List.set_cons_succ]
      refine wpAnyH_take (i := 31) (v := ?_) (by simp only [List.getElem?_toArray, List.getElem?_cons_zero, List.getElem?_cons_succ]; rfl) (by kernel_rfl) (by kernel_rfl) (by kernel_rfl) (by exact fun _ _ _ h => h) (Or.inl ⟨by rfl, ?_⟩) (by assumption) ?_
      rotate_left
      · (intro w' hSw; (try dsimp only at hSw); go_simp; try with_reducible rfl)
      try simp only [Act.put, List.setIfInBounds_toArray, List.set_cons_zero, List.set_cons_succ]
      refine wpAnyH_take (i := 32) (v := ?_) (by simp only [List.getElem?_toArray, List.getElem?_cons_zero, List.getElem?_cons_succ]; rfl) (by kernel_rfl) (by kernel_rfl) (by kernel_rfl) (by exact fun _ _ _ h => h) (Or.inl ⟨by rfl, ?_⟩) (by assumption) ?_
      rotate_left
      · (intro w' hSw; (try dsimp only at hSw); go_simp; try with_reducible rfl)
      try simp only [Act.put, List.setIfInBounds_toArray, List.set_cons_zero, List.set_cons_succ]
      refine wpAnyH_done (by kernel_rfl) ?_ _
      go_wp2
      go_returns
      exact ⟨rfl, after HJ2.out.bel hB⟩

end Go.Proofs.YtdbfaekdkjclcaaDoor
