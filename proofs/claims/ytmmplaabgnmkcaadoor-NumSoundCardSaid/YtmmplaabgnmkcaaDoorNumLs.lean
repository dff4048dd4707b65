/-
  THE WALK OF THE LAW NumSound.
-/
import Derived.Test.YtmmplaabgnmkcaaDoorNumRa
import Derived.Test.YtmmplaabgnmkcaaDoorNumO
import Derived.Test.YtmmplaabgnmkcaaDoorNumSo
namespace Go.Proofs.YtmmplaabgnmkcaaDoor
open Go Go.RowKit

theorem inside_any (a0 a1 v : Int) (w : World) : Calls Tryd.prog 31 #[.agg #[.int .i64 a0, .int .i64 a1], .int .i64 v] w (Gives w (.int .i64 (max a0 (min a1 v)))) := by
  have e : (if v < a1 then v else a1) = min a1 v := by split <;> omega
  go_enter Tryd.func31, Tryd.ntmps31
  go_wp2
  all_goals go_returns
  all_goals exact ⟨by simp only [e] at *; simp; omega, by (repeat' (first | (with_reducible exact Below.refl _ _) | (with_reducible assumption) | (with_reducible refine boxed ?_ _) | (with_reducible refine Below.drew ?_) | (with_reducible refine after ?_ (by assumption))))⟩

/-- WHAT NumSound's OWN BLOCKS HOLD in a world behind a call: both intervals, the interval of the operator. -/
structure SBox (w : World) (a0 a1 b0 b1 : Int) (W : World) : Prop where
  a0 : W.cell? ⟨w.heap.size, 0, none⟩ = some (.int .i64 a0)
  a1 : W.cell? ⟨w.heap.size, 1, none⟩ = some (.int .i64 a1)
  b0 : W.cell? ⟨w.heap.size + 1, 0, none⟩ = some (.int .i64 b0)
  b1 : W.cell? ⟨w.heap.size + 1, 1, none⟩ = some (.int .i64 b1)
  bel : Below w.heap.size w W
  lad : Laid W
theorem SBox.below {w : World} {a b c d : Int} {W w1 : World} (h : SBox w a b c d W) (hb : Below W.heap.size W w1) : SBox w a b c d w1 :=
  ⟨keepC hb h.a0, keepC hb h.a1, keepC hb h.b0, keepC hb h.b1, after h.bel hb, h.lad.after hb⟩
theorem SBox.start (w : World) (a b c d : Int) (L : Laid w) : SBox w a b c d ((w.alloc (.cells #[.int .i64 a, .int .i64 b] 29)).alloc (.cells #[.int .i64 c, .int .i64 d] 29)) :=
  ⟨by go_cell, by go_cell, by go_cell, by go_cell, boxed (boxed (Below.refl _ _) _) _, L.after (boxed (boxed (Below.refl _ _) _) _)⟩
theorem SBox.alloc {w : World} {a b c d : Int} {W : World} (h : SBox w a b c d W) (o : Obj) : SBox w a b c d (W.alloc o) := h.below (boxed (Below.refl _ _) o)

set_option maxHeartbeats 4000000 in
theorem sound_none1 (op a0 a1 b0 b1 x y p q : Int) (w : World) (L : Laid w) (h0 : 0 ≤ op) (hb0 : I64 b0) (hb1 : I64 b1) (hab : a1 < a0) (hr : rangeV op a0 a1 b0 b1 = .agg #[.int .i64 p, .int .i64 q]) (hpq : q < p) :
    Calls Tryd.prog 8 #[.int .u8 op, .agg #[.int .i64 a0, .int .i64 a1], .agg #[.int .i64 b0, .int .i64 b1], .int .i64 x, .int .i64 y] w (Gives w (.bool true)) := by
  have R0 := Lib.hid (SBox.start w a0 a1 b0 b1 L)
  clear L
  go_enter Tryd.func8, Tryd.ntmps8
  go_wp2_with fail
  refine (range_any _ _ _ _ _ _ R0.out.lad h0 hb0 hb1).mono ?_; rw [hr]; rintro e w1 ⟨rfl, hb⟩
  have R1 := Lib.hid (R0.out.below hb)
  have R2 := Lib.hid (R1.out.alloc (.cells #[.int .i64 p, .int .i64 q] 29))
  clear hb
  obtain ⟨k0, k1, k2, k3, _, _⟩ := R2.out
  go_wp2_with (first
      | (go_at_call 16; refine (head_true _ R2.out.lad).mono ?_; rintro e w1 ⟨rfl, hb⟩))
  all_goals go_returns
  all_goals exact ⟨rfl, after R2.out.bel hb⟩

set_option maxHeartbeats 4000000 in
theorem sound_none2 (op a0 a1 b0 b1 x y p q : Int) (w : World) (L : Laid w) (h0 : 0 ≤ op) (hb0 : I64 b0) (hb1 : I64 b1) (hab : ¬ a1 < a0) (hcd : b1 < b0) (ho : op = 16 ∨ op = 17 ∨ op = 18) (hr : rangeV op a0 a1 b0 b1 = .agg #[.int .i64 p, .int .i64 q]) :
    Calls Tryd.prog 8 #[.int .u8 op, .agg #[.int .i64 a0, .int .i64 a1], .agg #[.int .i64 b0, .int .i64 b1], .int .i64 x, .int .i64 y] w (Gives w (.bool true)) := by
  rcases ho with rfl | rfl | rfl
  all_goals
   have R0 := Lib.hid (SBox.start w a0 a1 b0 b1 L)
   clear L
   go_enter Tryd.func8, Tryd.ntmps8
   go_wp2_with fail
   refine (range_any _ _ _ _ _ _ R0.out.lad h0 hb0 hb1).mono ?_; rw [hr]; rintro e w1 ⟨rfl, hb⟩
   have R1 := Lib.hid (R0.out.below hb)
   have R2 := Lib.hid (R1.out.alloc (.cells #[.int .i64 p, .int .i64 q] 29))
   clear hb
   obtain ⟨k0, k1, k2, k3, _, _⟩ := R2.out
   go_wp2_with (first
       | (go_at_call 16; refine (head_true _ R2.out.lad).mono ?_; rintro e w1 ⟨rfl, hb⟩))
   all_goals go_returns
   all_goals exact ⟨rfl, after R2.out.bel hb⟩

set_option maxHeartbeats 4000000 in
theorem sound_none3 (op a0 a1 b0 b1 x y p q : Int) (w : World) (L : Laid w) (h0 : 0 ≤ op) (hb0 : I64 b0) (hb1 : I64 b1) (hab : ¬ a1 < a0) (hcd : b1 < b0) (n16 : ¬ op = 16) (n17 : ¬ op = 17) (n18 : ¬ op = 18) (hr : rangeV op a0 a1 b0 b1 = .agg #[.int .i64 p, .int .i64 q]) (hpq : q < p) :
    Calls Tryd.prog 8 #[.int .u8 op, .agg #[.int .i64 a0, .int .i64 a1], .agg #[.int .i64 b0, .int .i64 b1], .int .i64 x, .int .i64 y] w (Gives w (.bool true)) := by
  have R0 := Lib.hid (SBox.start w a0 a1 b0 b1 L)
  clear L
  go_enter Tryd.func8, Tryd.ntmps8
  go_wp2_with fail
  refine (range_any _ _ _ _ _ _ R0.out.lad h0 hb0 hb1).mono ?_; rw [hr]; rintro e w1 ⟨rfl, hb⟩
  have R1 := Lib.hid (R0.out.below hb)
  have R2 := Lib.hid (R1.out.alloc (.cells #[.int .i64 p, .int .i64 q] 29))
  clear hb
  obtain ⟨k0, k1, k2, k3, _, _⟩ := R2.out
  go_wp2_with (first
      | (go_at_call 16; refine (head_true _ R2.out.lad).mono ?_; rintro e w1 ⟨rfl, hb⟩))
  all_goals go_returns
  all_goals exact ⟨rfl, after R2.out.bel hb⟩

set_option maxHeartbeats 8000000 in
theorem sound_yes (op a0 a1 b0 b1 x y p q xx yy s t v j0 j1 : Int) (w : World) (L : Laid w) (h0 : 0 ≤ op) (hb0 : I64 b0) (hb1 : I64 b1) (hy64 : I64 yy) (hab : ¬ a1 < a0) (hcd : ¬ b1 < b0)
    (hr : rangeV op a0 a1 b0 b1 = .agg #[.int .i64 p, .int .i64 q]) (hX : max a0 (min a1 x) = xx) (hY : max b0 (min b1 y) = yy) (hs : rangeV op xx xx yy yy = .agg #[.int .i64 s, .int .i64 t]) (hj : joinV p q s t = .agg #[.int .i64 j0, .int .i64 j1])
    (hv : wrapV op xx yy = v) (ho : opHas op yy = true) (hh : hasB p q v = true) (hl1 : liesB s t j0 j1 = true) (hl2 : liesB s t p q = true) :
    Calls Tryd.prog 8 #[.int .u8 op, .agg #[.int .i64 a0, .int .i64 a1], .agg #[.int .i64 b0, .int .i64 b1], .int .i64 x, .int .i64 y] w (Gives w (.bool true)) := by
  have R0 := Lib.hid (SBox.start w a0 a1 b0 b1 L)
  have HX := Lib.hid hX
  have HY := Lib.hid hY
  have HS := Lib.hid hs
  have HJ := Lib.hid hj
  have HV := Lib.hid hv
  have HO := Lib.hid ho
  have HH := Lib.hid hh
  have H1 := Lib.hid hl1
  have H2 := Lib.hid hl2
  have HYI := Lib.hid hy64
  clear L hX hY hs hj hv ho hh hl1 hl2 hy64
  go_enter Tryd.func8, Tryd.ntmps8
  go_wp2_with fail
  refine (range_any _ _ _ _ _ _ R0.out.lad h0 hb0 hb1).mono ?_; rw [hr]; rintro e w1 ⟨rfl, hb⟩
  have R1 := Lib.hid (R0.out.below hb)
  have R2 := Lib.hid (R1.out.alloc (.cells #[.int .i64 p, .int .i64 q] 29))
  have r0 : (w1.alloc (.cells #[.int .i64 p, .int .i64 q] 29)).cell? ⟨w1.heap.size, 0, none⟩ = some (.int .i64 p) := by go_cell
  have r1 : (w1.alloc (.cells #[.int .i64 p, .int .i64 q] 29)).cell? ⟨w1.heap.size, 1, none⟩ = some (.int .i64 q) := by go_cell
  clear hb
  obtain ⟨k0, k1, k2, k3, _, _⟩ := R2.out
  go_wp2_with fail
  go_region_held3 (fun w' => w'.cell? ⟨w.heap.size, 0, none⟩ = some (.int .i64 a0) ∧ w'.cell? ⟨w.heap.size, 1, none⟩ = some (.int .i64 a1) ∧ w'.cell? ⟨w.heap.size + 1, 0, none⟩ = some (.int .i64 b0) ∧ w'.cell? ⟨w.heap.size + 1, 1, none⟩ = some (.int .i64 b1) ∧ w'.cell? ⟨w1.heap.size, 0, none⟩ = some (.int .i64 p) ∧ w'.cell? ⟨w1.heap.size, 1, none⟩ = some (.int .i64 q))
    (first | (go_split_ands; refine ⟨?_, ?_, ?_, ?_, ?_, ?_⟩ <;> exact keepC (by assumption) (by assumption)) | (refine ⟨?_, ?_, ?_, ?_, ?_, ?_⟩ <;> first | assumption | go_cell))
    (first
      | (go_at_call_of 31 (Value.int IntKind.i64 x); refine (inside_any _ _ _ _).mono ?_; rw [HX.out]; rintro e w2 ⟨rfl, hb⟩)
      | (go_at_call_of 31 (Value.int IntKind.i64 y); refine (inside_any _ _ _ _).mono ?_; rw [HY.out]; rintro e w2 ⟨rfl, hb⟩))
  rename_i w2' hb' hh
  obtain ⟨k0, k1, k2, k3, r0, r1⟩ := hh
  have R3 := Lib.hid (R2.out.below (w1 := w2) (after (Below.drew (Below.refl _ _)) (after hb' hb)))
  clear R0 R1 R2
  go_wp2_with fail
  refine (wrap_any _ _ _ h0 _).mono ?_; rw [HV.out, HO.out]; rintro e w3 ⟨rfl, hb⟩
  have R4 := Lib.hid (R3.out.below hb)
  replace k0 := keepC hb k0
  replace k1 := keepC hb k1
  replace k2 := keepC hb k2
  replace k3 := keepC hb k3
  replace r0 := keepC hb r0
  replace r1 := keepC hb r1
  clear hb R3
  clear k0 k1 k2 k3
  go_wp2_with fail
  refine (ival_agg _ _ _).mono ?_; rintro e w4 ⟨rfl, hb⟩
  have R5 := Lib.hid (R4.out.below hb)
  replace r0 := keepC hb r0
  replace r1 := keepC hb r1
  clear hb R4
  go_wp2_with fail
  refine (ival_agg _ _ _).mono ?_; rintro e w5 ⟨rfl, hb⟩
  have R6 := Lib.hid (R5.out.below hb)
  replace r0 := keepC hb r0
  replace r1 := keepC hb r1
  clear hb R5
  go_wp2_with fail
  refine (range_any _ _ _ _ _ _ R6.out.lad h0 HYI.out HYI.out).mono ?_; rw [HS.out]; rintro e w6 ⟨rfl, hb⟩
  have R7 := Lib.hid (R6.out.below hb)
  replace r0 := keepC hb r0
  replace r1 := keepC hb r1
  clear hb R6
  have R8 := Lib.hid (R7.out.alloc (.cells #[.int .i64 s, .int .i64 t] 29))
  have s0 : (w6.alloc (.cells #[.int .i64 s, .int .i64 t] 29)).cell? ⟨w6.heap.size, 0, none⟩ = some (.int .i64 s) := by go_cell
  have s1 : (w6.alloc (.cells #[.int .i64 s, .int .i64 t] 29)).cell? ⟨w6.heap.size, 1, none⟩ = some (.int .i64 t) := by go_cell
  replace r0 := keepC (boxed (Below.refl _ _) (.cells #[.int .i64 s, .int .i64 t] 29)) r0
  replace r1 := keepC (boxed (Below.refl _ _) (.cells #[.int .i64 s, .int .i64 t] 29)) r1
  clear R7
  go_wp2_with fail
  refine wp_region_held_drew (S := fun w' => w'.cell? ⟨w1.heap.size, 0, none⟩ = some (.int .i64 p) ∧ w'.cell? ⟨w1.heap.size, 1, none⟩ = some (.int .i64 q) ∧ w'.cell? ⟨w6.heap.size, 0, none⟩ = some (.int .i64 s) ∧ w'.cell? ⟨w6.heap.size, 1, none⟩ = some (.int .i64 t)) (by kernel_rfl) ?_ (fun hHeld => ?_)
  · (try dsimp only)
    (first | (go_split_ands; refine ⟨?_, ?_, ?_, ?_⟩ <;> exact keepC (by assumption) (by assumption)) | (refine ⟨?_, ?_, ?_, ?_⟩ <;> first | assumption | go_cell))
  refine wpAnyH_take (i := 0) (v := ?_) (by simp only [List.getElem?_toArray, List.getElem?_cons_zero, List.getElem?_cons_succ]; rfl) (by kernel_rfl) (by kernel_rfl) (by kernel_rfl) (by exact fun _ _ _ h => h) (Or.inl ⟨by rfl, ?_⟩) (by assumption) ?_
  rotate_left
  · (intro w' hSw; (try dsimp only at hSw); go_simp; try with_reducible rfl)
  try simp only [Act.put, List.setIfInBounds_toArray, List.set_cons_zero, List.set_cons_succ]
  refine wpAnyH_take (i := 1) (v := ?_) (by simp only [List.getElem?_toArray, List.getElem?_cons_zero, List.getElem?_cons_succ]; rfl) (by kernel_rfl) (by kernel_rfl) (by kernel_rfl) (by exact fun _ _ _ h => h) (Or.inl ⟨by rfl, ?_⟩) (by assumption) ?_
  rotate_left
  · (intro w' hSw; (try dsimp only at hSw); go_simp; try with_reducible rfl)
  try simp only [Act.put, List.setIfInBounds_toArray, List.set_cons_zero, List.set_cons_succ]
  refine wpAnyH_take (i := 2) (v := ?_) (by simp only [List.getElem?_toArray, List.getElem?_cons_zero, List.getElem?_cons_succ]; rfl) (by kernel_rfl) (by kernel_rfl) (by kernel_rfl) (by exact fun _ _ _ h => h) (Or.inl ⟨by rfl, ?_⟩) (by assumption) ?_
  rotate_left
  · (intro w' hSw; (try dsimp only at hSw); go_simp; try with_reducible rfl)
  try simp only [Act.put, List.setIfInBounds_toArray, List.set_cons_zero, List.set_cons_succ]
  refine wpAnyH_take (i := 3) (v := ?_) (by simp only [List.getElem?_toArray, List.getElem?_cons_zero, List.getElem?_cons_succ]; rfl) (by kernel_rfl) (by kernel_rfl) (by kernel_rfl) (by exact fun _ _ _ h => h) (Or.inl ⟨by rfl, ?_⟩) (by assumption) ?_
  rotate_left
  · (intro w' hSw; (try dsimp only at hSw); go_simp; try with_reducible rfl)
  try simp only [Act.put, List.setIfInBounds_toArray, List.set_cons_zero, List.set_cons_succ]
  refine wpAnyH_take (i := 4) (v := ?_) (by simp only [List.getElem?_toArray, List.getElem?_cons_zero, List.getElem?_cons_succ]; rfl) (by kernel_rfl) (by kernel_rfl) (by kernel_rfl) (by exact fun _ _ _ h => h) (Or.inl ⟨by rfl, ?_⟩) (by assumption) ?_
  rotate_left
  · (intro w' hSw; (try dsimp only at hSw); go_simp; try with_reducible rfl)
  try simp only [Act.put, List.setIfInBounds_toArray, List.set_cons_zero, List.set_cons_succ]
  refine wpAnyH_ready (rs := [5]) (by kernel_rfl) (by simp) ?_
  refine AllReadyH.cons (by simp only [List.getElem?_toArray, List.getElem?_cons_zero, List.getElem?_cons_succ]; rfl) (fun K hK => ?_) AllReadyH.nil
  go_simp
  refine (has_any _ _ _ _).mono ?_; rw [HH.out]; rintro e w7 ⟨rfl, hb7⟩
  go_wp2_with fail
  refine hK.out _ _ ?_ (fun hHeld => ?_)
  · (try dsimp only)
    (first | (go_split_ands; refine ⟨?_, ?_, ?_, ?_⟩ <;> exact keepC (by assumption) (by assumption)) | (refine ⟨?_, ?_, ?_, ?_⟩ <;> first | assumption | go_cell))
  clear hK K
  try simp only [Act.put, List.setIfInBounds_toArray, List.set_cons_zero, List.set_cons_succ]
  refine wpAnyH_take (i := 6) (v := ?_) (by simp only [List.getElem?_toArray, List.getElem?_cons_zero, List.getElem?_cons_succ]; rfl) (by kernel_rfl) (by kernel_rfl) (by kernel_rfl) (by exact fun _ _ _ h => h) (Or.inl ⟨by rfl, ?_⟩) (by assumption) ?_
  rotate_left
  · (intro w' hSw; (try dsimp only at hSw); go_simp; try with_reducible rfl)
  try simp only [Act.put, List.setIfInBounds_toArray, List.set_cons_zero, List.set_cons_succ]
  refine wpAnyH_take (i := 7) (v := ?_) (by simp only [List.getElem?_toArray, List.getElem?_cons_zero, List.getElem?_cons_succ]; rfl) (by kernel_rfl) (by kernel_rfl) (by kernel_rfl) (by exact fun _ _ _ h => h) (Or.inl ⟨by rfl, ?_⟩) (by assumption) ?_
  rotate_left
  · (intro w' hSw; (try dsimp only at hSw); go_simp; try with_reducible rfl)
  try simp only [Act.put, List.setIfInBounds_toArray, List.set_cons_zero, List.set_cons_succ]
  refine wpAnyH_take (i := 8) (v := ?_) (by simp only [List.getElem?_toArray, List.getElem?_cons_zero, List.getElem?_cons_succ]; rfl) (by kernel_rfl) (by kernel_rfl) (by kernel_rfl) (by exact fun _ _ _ h => h) (Or.inl ⟨by rfl, ?_⟩) (by assumption) ?_
  rotate_left
  · (intro w' hSw; (try dsimp only at hSw); go_simp; try with_reducible rfl)
  try simp only [Act.put, List.setIfInBounds_toArray, List.set_cons_zero, List.set_cons_succ]
  refine wpAnyH_take (i := 9) (v := ?_) (by simp only [List.getElem?_toArray, List.getElem?_cons_zero, List.getElem?_cons_succ]; rfl) (by kernel_rfl) (by kernel_rfl) (by kernel_rfl) (by exact fun _ _ _ h => h) (Or.inl ⟨by rfl, ?_⟩) (by assumption) ?_
  rotate_left
  · (intro w' hSw; (try dsimp only at hSw); go_simp; try with_reducible rfl)
  try simp only [Act.put, List.setIfInBounds_toArray, List.set_cons_zero, List.set_cons_succ]
  refine wpAnyH_take (i := 10) (v := ?_) (by simp only [List.getElem?_toArray, List.getElem?_cons_zero, List.getElem?_cons_succ]; rfl) (by kernel_rfl) (by kernel_rfl) (by kernel_rfl) (by exact fun _ _ _ h => h) (Or.inl ⟨by rfl, ?_⟩) (by assumption) ?_
  rotate_left
  · (intro w' hSw; (try dsimp only at hSw); go_simp; try with_reducible rfl)
  try simp only [Act.put, List.setIfInBounds_toArray, List.set_cons_zero, List.set_cons_succ]
  refine wpAnyH_ready (rs := [11]) (by kernel_rfl) (by simp) ?_
  refine AllReadyH.cons (by simp only [List.getElem?_toArray, List.getElem?_cons_zero, List.getElem?_cons_succ]; rfl) (fun K hK => ?_) AllReadyH.nil
  go_simp
  refine (join_any _ _ _ _ _ (R8.out.lad.after (by (repeat' (first | (with_reducible exact Below.refl _ _) | (with_reducible assumption) | (with_reducible refine boxed ?_ _) | (with_reducible refine Below.drew ?_) | (with_reducible refine after ?_ (by assumption)))); go_grown))).mono ?_; rw [HJ.out]; rintro e w8 ⟨rfl, hb8⟩
  go_wp2_with fail
  refine hK.out _ _ ?_ (fun hHeld => ?_)
  · (try dsimp only)
    (first | (go_split_ands; refine ⟨?_, ?_, ?_, ?_⟩ <;> exact keepC (by assumption) (by assumption)) | (refine ⟨?_, ?_, ?_, ?_⟩ <;> first | assumption | go_cell))
  clear hK K
  try simp only [Act.put, List.setIfInBounds_toArray, List.set_cons_zero, List.set_cons_succ]
  refine wpAnyH_ready (rs := [12]) (by kernel_rfl) (by simp) ?_
  refine AllReadyH.cons (by simp only [List.getElem?_toArray, List.getElem?_cons_zero, List.getElem?_cons_succ]; rfl) (fun K hK => ?_) AllReadyH.nil
  go_simp
  refine (lies_any _ _ _ _ _).mono ?_; rw [H1.out]; rintro e w9 ⟨rfl, hb9⟩
  go_wp2_with fail
  refine hK.out _ _ ?_ (fun hHeld => ?_)
  · (try dsimp only)
    (first | (go_split_ands; refine ⟨?_, ?_, ?_, ?_⟩ <;> exact keepC (by assumption) (by assumption)) | (refine ⟨?_, ?_, ?_, ?_⟩ <;> first | assumption | go_cell))
  clear hK K
  try simp only [Act.put, List.setIfInBounds_toArray, List.set_cons_zero, List.set_cons_succ]
  refine wpAnyH_take (i := 13) (v := ?_) (by simp only [List.getElem?_toArray, List.getElem?_cons_zero, List.getElem?_cons_succ]; rfl) (by kernel_rfl) (by kernel_rfl) (by kernel_rfl) (by exact fun _ _ _ h => h) (Or.inl ⟨by rfl, ?_⟩) (by assumption) ?_
  rotate_left
  · (intro w' hSw; (try dsimp only at hSw); go_simp; try with_reducible rfl)
  try simp only [Act.put, List.setIfInBounds_toArray, List.set_cons_zero, List.set_cons_succ]
  refine wpAnyH_take (i := 14) (v := ?_) (by simp only [List.getElem?_toArray, List.getElem?_cons_zero, List.getElem?_cons_succ]; rfl) (by kernel_rfl) (by kernel_rfl) (by kernel_rfl) (by exact fun _ _ _ h => h) (Or.inl ⟨by rfl, ?_⟩) (by assumption) ?_
  rotate_left
  · (intro w' hSw; (try dsimp only at hSw); go_simp; try with_reducible rfl)
  try simp only [Act.put, List.setIfInBounds_toArray, List.set_cons_zero, List.set_cons_succ]
  refine wpAnyH_take (i := 15) (v := ?_) (by simp only [List.getElem?_toArray, List.getElem?_cons_zero, List.getElem?_cons_succ]; rfl) (by kernel_rfl) (by kernel_rfl) (by kernel_rfl) (by exact fun _ _ _ h => h) (Or.inl ⟨by rfl, ?_⟩) (by assumption) ?_
  rotate_left
  · (intro w' hSw; (try dsimp only at hSw); go_simp; try with_reducible rfl)
  try simp only [Act.put, List.setIfInBounds_toArray, List.set_cons_zero, List.set_cons_succ]
  refine wpAnyH_take (i := 16) (v := ?_) (by simp only [List.getElem?_toArray, List.getElem?_cons_zero, List.getElem?_cons_succ]; rfl) (by kernel_rfl) (by kernel_rfl) (by kernel_rfl) (by exact fun _ _ _ h => h) (Or.inl ⟨by rfl, ?_⟩) (by assumption) ?_
  rotate_left
  · (intro w' hSw; (try dsimp only at hSw); go_simp; try with_reducible rfl)
  try simp only [Act.put, List.setIfInBounds_toArray, List.set_cons_zero, List.set_cons_succ]
  refine wpAnyH_ready (rs := [17]) (by kernel_rfl) (by simp) ?_
  refine AllReadyH.cons (by simp only [List.getElem?_toArray, List.getElem?_cons_zero, List.getElem?_cons_succ]; rfl) (fun K hK => ?_) AllReadyH.nil
  go_simp
  refine (lies_any _ _ _ _ _).mono ?_; rw [H2.out]; rintro e w10 ⟨rfl, hb10⟩
  go_wp2_with fail
  refine hK.out _ _ ?_ (fun hHeld => ?_)
  · (try dsimp only)
    (first | (go_split_ands; refine ⟨?_, ?_, ?_, ?_⟩ <;> exact keepC (by assumption) (by assumption)) | (refine ⟨?_, ?_, ?_, ?_⟩ <;> first | assumption | go_cell))
  clear hK K
  try simp only [Act.put, List.setIfInBounds_toArray, List.set_cons_zero, List.set_cons_succ]
  refine wpAnyH_take (i := 18) (v := ?_) (by simp only [List.getElem?_toArray, List.getElem?_cons_zero, List.getElem?_cons_succ]; rfl) (by kernel_rfl) (by kernel_rfl) (by kernel_rfl) (by exact fun _ _ _ h => h) (Or.inl ⟨by rfl, ?_⟩) (by assumption) ?_
  rotate_left
  · (intro w' hSw; (try dsimp only at hSw); go_simp; try with_reducible rfl)
  try simp only [Act.put, List.setIfInBounds_toArray, List.set_cons_zero, List.set_cons_succ]
  refine wpAnyH_take (i := 19) (v := undef) (by simp only [List.getElem?_toArray, List.getElem?_cons_zero, List.getElem?_cons_succ]; rfl) (by kernel_rfl) (by kernel_rfl) (by kernel_rfl) (by exact fun _ _ _ h => h) (Or.inr ⟨by rfl, rfl⟩) (by assumption) ?_
  try simp only [Act.put, List.setIfInBounds_toArray, List.set_cons_zero, List.set_cons_succ]
  refine wpAnyH_take (i := 20) (v := undef) (by simp only [List.getElem?_toArray, List.getElem?_cons_zero, List.getElem?_cons_succ]; rfl) (by kernel_rfl) (by kernel_rfl) (by kernel_rfl) (by exact fun _ _ _ h => h) (Or.inr ⟨by rfl, rfl⟩) (by assumption) ?_
  try simp only [Act.put, List.setIfInBounds_toArray, List.set_cons_zero, List.set_cons_succ]
  refine wpAnyH_take (i := 21) (v := ?_) (by simp only [List.getElem?_toArray, List.getElem?_cons_zero, List.getElem?_cons_succ]; rfl) (by kernel_rfl) (by kernel_rfl) (by kernel_rfl) (by exact fun _ _ _ h => h) (Or.inl ⟨by rfl, ?_⟩) (by assumption) ?_
  rotate_left
  · (intro w' hSw; (try dsimp only at hSw); go_simp; try with_reducible rfl)
  try simp only [Act.put, List.setIfInBounds_toArray, List.set_cons_zero, List.set_cons_succ]
  refine wpAnyH_take (i := 22) (v := ?_) (by simp only [List.getElem?_toArray, List.getElem?_cons_zero, List.getElem?_cons_succ]; rfl) (by kernel_rfl) (by kernel_rfl) (by kernel_rfl) (by exact fun _ _ _ h => h) (Or.inl ⟨by rfl, ?_⟩) (by assumption) ?_
  rotate_left
  · (intro w' hSw; (try dsimp only at hSw); go_simp; try with_reducible rfl)
  try simp only [Act.put, List.setIfInBounds_toArray, List.set_cons_zero, List.set_cons_succ]
  refine wpAnyH_take (i := 23) (v := ?_) (by simp only [List.getElem?_toArray, List.getElem?_cons_zero, List.getElem?_cons_succ]; rfl) (by kernel_rfl) (by kernel_rfl) (by kernel_rfl) (by exact fun _ _ _ h => h) (Or.inl ⟨by rfl, ?_⟩) (by assumption) ?_
  rotate_left
  · (intro w' hSw; (try dsimp only at hSw); go_simp; try with_reducible rfl)
  try simp only [Act.put, List.setIfInBounds_toArray, List.set_cons_zero, List.set_cons_succ]
  refine wpAnyH_ready (rs := [24]) (by kernel_rfl) (by simp) ?_
  refine AllReadyH.cons (by simp only [List.getElem?_toArray, List.getElem?_cons_zero, List.getElem?_cons_succ]; rfl) (fun K hK => ?_) AllReadyH.nil
  go_simp
  refine (head_true _ (R8.out.lad.after (by (repeat' (first | (with_reducible exact Below.refl _ _) | (with_reducible assumption) | (with_reducible refine boxed ?_ _) | (with_reducible refine Below.drew ?_) | (with_reducible refine after ?_ (by assumption)))); go_grown))).mono ?_; rintro e w11 ⟨rfl, hb11⟩
  go_wp2_with fail
  refine hK.out _ _ ?_ (fun hHeld => ?_)
  · (try dsimp only)
    (first | (go_split_ands; refine ⟨?_, ?_, ?_, ?_⟩ <;> exact keepC (by assumption) (by assumption)) | (refine ⟨?_, ?_, ?_, ?_⟩ <;> first | assumption | go_cell))
  clear hK K
  try simp only [Act.put, List.setIfInBounds_toArray, List.set_cons_zero, List.set_cons_succ]
  refine wpAnyH_take (i := 25) (v := ?_) (by simp only [List.getElem?_toArray, List.getElem?_cons_zero, List.getElem?_cons_succ]; rfl) (by kernel_rfl) (by kernel_rfl) (by kernel_rfl) (by exact fun _ _ _ h => h) (Or.inl ⟨by rfl, ?_⟩) (by assumption) ?_
  rotate_left
  · (intro w' hSw; (try dsimp only at hSw); go_simp; try with_reducible rfl)
  try simp only [Act.put, List.setIfInBounds_toArray, List.set_cons_zero, List.set_cons_succ]
  refine wpAnyH_take (i := 26) (v := ?_) (by simp only [List.getElem?_toArray, List.getElem?_cons_zero, List.getElem?_cons_succ]; rfl) (by kernel_rfl) (by kernel_rfl) (by kernel_rfl) (by exact fun _ _ _ h => h) (Or.inl ⟨by rfl, ?_⟩) (by assumption) ?_
  rotate_left
  · (intro w' hSw; (try dsimp only at hSw); go_simp; try with_reducible rfl)
  try simp only [Act.put, List.setIfInBounds_toArray, List.set_cons_zero, List.set_cons_succ]
  refine wpAnyH_done (by kernel_rfl) ?_ _
  go_wp2
  go_returns
  exact ⟨rfl, after R8.out.bel (by (repeat' (first | (with_reducible exact Below.refl _ _) | (with_reducible assumption) | (with_reducible refine boxed ?_ _) | (with_reducible refine Below.drew ?_) | (with_reducible refine after ?_ (by assumption)))); go_grown)⟩

set_option maxHeartbeats 8000000 in
theorem sound_no1 (op a0 a1 b0 b1 x y p q xx yy s t v j0 j1 : Int) (w : World) (L : Laid w) (h0 : 0 ≤ op) (hb0 : I64 b0) (hb1 : I64 b1) (hy64 : I64 yy) (hab : ¬ a1 < a0) (hcd : ¬ b1 < b0)
    (hr : rangeV op a0 a1 b0 b1 = .agg #[.int .i64 p, .int .i64 q]) (hX : max a0 (min a1 x) = xx) (hY : max b0 (min b1 y) = yy) (hs : rangeV op xx xx yy yy = .agg #[.int .i64 s, .int .i64 t]) (hj : joinV p q s t = .agg #[.int .i64 j0, .int .i64 j1])
    (hv : wrapV op xx yy = v) (ho : opHas op yy = false) (hl1 : liesB s t j0 j1 = true) (hl2 : liesB s t p q = true) :
    Calls Tryd.prog 8 #[.int .u8 op, .agg #[.int .i64 a0, .int .i64 a1], .agg #[.int .i64 b0, .int .i64 b1], .int .i64 x, .int .i64 y] w (Gives w (.bool true)) := by
  have R0 := Lib.hid (SBox.start w a0 a1 b0 b1 L)
  have HX := Lib.hid hX
  have HY := Lib.hid hY
  have HS := Lib.hid hs
  have HJ := Lib.hid hj
  have HV := Lib.hid hv
  have HO := Lib.hid ho
  have H1 := Lib.hid hl1
  have H2 := Lib.hid hl2
  have HYI := Lib.hid hy64
  clear L hX hY hs hj hv ho hl1 hl2 hy64
  go_enter Tryd.func8, Tryd.ntmps8
  go_wp2_with fail
  refine (range_any _ _ _ _ _ _ R0.out.lad h0 hb0 hb1).mono ?_; rw [hr]; rintro e w1 ⟨rfl, hb⟩
  have R1 := Lib.hid (R0.out.below hb)
  have R2 := Lib.hid (R1.out.alloc (.cells #[.int .i64 p, .int .i64 q] 29))
  have r0 : (w1.alloc (.cells #[.int .i64 p, .int .i64 q] 29)).cell? ⟨w1.heap.size, 0, none⟩ = some (.int .i64 p) := by go_cell
  have r1 : (w1.alloc (.cells #[.int .i64 p, .int .i64 q] 29)).cell? ⟨w1.heap.size, 1, none⟩ = some (.int .i64 q) := by go_cell
  clear hb
  obtain ⟨k0, k1, k2, k3, _, _⟩ := R2.out
  go_wp2_with fail
  go_region_held3 (fun w' => w'.cell? ⟨w.heap.size, 0, none⟩ = some (.int .i64 a0) ∧ w'.cell? ⟨w.heap.size, 1, none⟩ = some (.int .i64 a1) ∧ w'.cell? ⟨w.heap.size + 1, 0, none⟩ = some (.int .i64 b0) ∧ w'.cell? ⟨w.heap.size + 1, 1, none⟩ = some (.int .i64 b1) ∧ w'.cell? ⟨w1.heap.size, 0, none⟩ = some (.int .i64 p) ∧ w'.cell? ⟨w1.heap.size, 1, none⟩ = some (.int .i64 q))
    (first | (go_split_ands; refine ⟨?_, ?_, ?_, ?_, ?_, ?_⟩ <;> exact keepC (by assumption) (by assumption)) | (refine ⟨?_, ?_, ?_, ?_, ?_, ?_⟩ <;> first | assumption | go_cell))
    (first
      | (go_at_call_of 31 (Value.int IntKind.i64 x); refine (inside_any _ _ _ _).mono ?_; rw [HX.out]; rintro e w2 ⟨rfl, hb⟩)
      | (go_at_call_of 31 (Value.int IntKind.i64 y); refine (inside_any _ _ _ _).mono ?_; rw [HY.out]; rintro e w2 ⟨rfl, hb⟩))
  rename_i w2' hb' hh
  obtain ⟨k0, k1, k2, k3, r0, r1⟩ := hh
  have R3 := Lib.hid (R2.out.below (w1 := w2) (after (Below.drew (Below.refl _ _)) (after hb' hb)))
  clear R0 R1 R2
  go_wp2_with fail
  refine (wrap_any _ _ _ h0 _).mono ?_; rw [HV.out, HO.out]; rintro e w3 ⟨rfl, hb⟩
  have R4 := Lib.hid (R3.out.below hb)
  replace k0 := keepC hb k0
  replace k1 := keepC hb k1
  replace k2 := keepC hb k2
  replace k3 := keepC hb k3
  replace r0 := keepC hb r0
  replace r1 := keepC hb r1
  clear hb R3
  clear k0 k1 k2 k3
  go_wp2_with fail
  refine (ival_agg _ _ _).mono ?_; rintro e w4 ⟨rfl, hb⟩
  have R5 := Lib.hid (R4.out.below hb)
  replace r0 := keepC hb r0
  replace r1 := keepC hb r1
  clear hb R4
  go_wp2_with fail
  refine (ival_agg _ _ _).mono ?_; rintro e w5 ⟨rfl, hb⟩
  have R6 := Lib.hid (R5.out.below hb)
  replace r0 := keepC hb r0
  replace r1 := keepC hb r1
  clear hb R5
  go_wp2_with fail
  refine (range_any _ _ _ _ _ _ R6.out.lad h0 HYI.out HYI.out).mono ?_; rw [HS.out]; rintro e w6 ⟨rfl, hb⟩
  have R7 := Lib.hid (R6.out.below hb)
  replace r0 := keepC hb r0
  replace r1 := keepC hb r1
  clear hb R6
  have R8 := Lib.hid (R7.out.alloc (.cells #[.int .i64 s, .int .i64 t] 29))
  have s0 : (w6.alloc (.cells #[.int .i64 s, .int .i64 t] 29)).cell? ⟨w6.heap.size, 0, none⟩ = some (.int .i64 s) := by go_cell
  have s1 : (w6.alloc (.cells #[.int .i64 s, .int .i64 t] 29)).cell? ⟨w6.heap.size, 1, none⟩ = some (.int .i64 t) := by go_cell
  replace r0 := keepC (boxed (Below.refl _ _) (.cells #[.int .i64 s, .int .i64 t] 29)) r0
  replace r1 := keepC (boxed (Below.refl _ _) (.cells #[.int .i64 s, .int .i64 t] 29)) r1
  clear R7
  go_wp2_with fail
  refine wp_region_held_drew (S := fun w' => w'.cell? ⟨w1.heap.size, 0, none⟩ = some (.int .i64 p) ∧ w'.cell? ⟨w1.heap.size, 1, none⟩ = some (.int .i64 q) ∧ w'.cell? ⟨w6.heap.size, 0, none⟩ = some (.int .i64 s) ∧ w'.cell? ⟨w6.heap.size, 1, none⟩ = some (.int .i64 t)) (by kernel_rfl) ?_ (fun hHeld => ?_)
  · (try dsimp only)
    (first | (go_split_ands; refine ⟨?_, ?_, ?_, ?_⟩ <;> exact keepC (by assumption) (by assumption)) | (refine ⟨?_, ?_, ?_, ?_⟩ <;> first | assumption | go_cell))
  refine wpAnyH_take (i := 0) (v := ?_) (by simp only [List.getElem?_toArray, List.getElem?_cons_zero, List.getElem?_cons_succ]; rfl) (by kernel_rfl) (by kernel_rfl) (by kernel_rfl) (by exact fun _ _ _ h => h) (Or.inl ⟨by rfl, ?_⟩) (by assumption) ?_
  rotate_left
  · (intro w' hSw; (try dsimp only at hSw); go_simp; try with_reducible rfl)
  try simp only [Act.put, List.setIfInBounds_toArray, List.set_cons_zero, List.set_cons_succ]
  refine wpAnyH_take (i := 1) (v := ?_) (by simp only [List.getElem?_toArray, List.getElem?_cons_zero, List.getElem?_cons_succ]; rfl) (by kernel_rfl) (by kernel_rfl) (by kernel_rfl) (by exact fun _ _ _ h => h) (Or.inl ⟨by rfl, ?_⟩) (by assumption) ?_
  rotate_left
  · (intro w' hSw; (try dsimp only at hSw); go_simp; try with_reducible rfl)
  try simp only [Act.put, List.setIfInBounds_toArray, List.set_cons_zero, List.set_cons_succ]
  refine wpAnyH_take (i := 2) (v := ?_) (by simp only [List.getElem?_toArray, List.getElem?_cons_zero, List.getElem?_cons_succ]; rfl) (by kernel_rfl) (by kernel_rfl) (by kernel_rfl) (by exact fun _ _ _ h => h) (Or.inl ⟨by rfl, ?_⟩) (by assumption) ?_
  rotate_left
  · (intro w' hSw; (try dsimp only at hSw); go_simp; try with_reducible rfl)
  try simp only [Act.put, List.setIfInBounds_toArray, List.set_cons_zero, List.set_cons_succ]
  refine wpAnyH_take (i := 3) (v := undef) (by simp only [List.getElem?_toArray, List.getElem?_cons_zero, List.getElem?_cons_succ]; rfl) (by kernel_rfl) (by kernel_rfl) (by kernel_rfl) (by exact fun _ _ _ h => h) (Or.inr ⟨by rfl, rfl⟩) (by assumption) ?_
  try simp only [Act.put, List.setIfInBounds_toArray, List.set_cons_zero, List.set_cons_succ]
  refine wpAnyH_take (i := 4) (v := undef) (by simp only [List.getElem?_toArray, List.getElem?_cons_zero, List.getElem?_cons_succ]; rfl) (by kernel_rfl) (by kernel_rfl) (by kernel_rfl) (by exact fun _ _ _ h => h) (Or.inr ⟨by rfl, rfl⟩) (by assumption) ?_
  try simp only [Act.put, List.setIfInBounds_toArray, List.set_cons_zero, List.set_cons_succ]
  refine wpAnyH_take (i := 5) (v := undef) (by simp only [List.getElem?_toArray, List.getElem?_cons_zero, List.getElem?_cons_succ]; rfl) (by kernel_rfl) (by kernel_rfl) (by kernel_rfl) (by exact fun _ _ _ h => h) (Or.inr ⟨by rfl, rfl⟩) (by assumption) ?_
  try simp only [Act.put, List.setIfInBounds_toArray, List.set_cons_zero, List.set_cons_succ]
  refine wpAnyH_take (i := 6) (v := ?_) (by simp only [List.getElem?_toArray, List.getElem?_cons_zero, List.getElem?_cons_succ]; rfl) (by kernel_rfl) (by kernel_rfl) (by kernel_rfl) (by exact fun _ _ _ h => h) (Or.inl ⟨by rfl, ?_⟩) (by assumption) ?_
  rotate_left
  · (intro w' hSw; (try dsimp only at hSw); go_simp; try with_reducible rfl)
  try simp only [Act.put, List.setIfInBounds_toArray, List.set_cons_zero, List.set_cons_succ]
  refine wpAnyH_take (i := 7) (v := ?_) (by simp only [List.getElem?_toArray, List.getElem?_cons_zero, List.getElem?_cons_succ]; rfl) (by kernel_rfl) (by kernel_rfl) (by kernel_rfl) (by exact fun _ _ _ h => h) (Or.inl ⟨by rfl, ?_⟩) (by assumption) ?_
  rotate_left
  · (intro w' hSw; (try dsimp only at hSw); go_simp; try with_reducible rfl)
  try simp only [Act.put, List.setIfInBounds_toArray, List.set_cons_zero, List.set_cons_succ]
  refine wpAnyH_take (i := 8) (v := ?_) (by simp only [List.getElem?_toArray, List.getElem?_cons_zero, List.getElem?_cons_succ]; rfl) (by kernel_rfl) (by kernel_rfl) (by kernel_rfl) (by exact fun _ _ _ h => h) (Or.inl ⟨by rfl, ?_⟩) (by assumption) ?_
  rotate_left
  · (intro w' hSw; (try dsimp only at hSw); go_simp; try with_reducible rfl)
  try simp only [Act.put, List.setIfInBounds_toArray, List.set_cons_zero, List.set_cons_succ]
  refine wpAnyH_take (i := 9) (v := ?_) (by simp only [List.getElem?_toArray, List.getElem?_cons_zero, List.getElem?_cons_succ]; rfl) (by kernel_rfl) (by kernel_rfl) (by kernel_rfl) (by exact fun _ _ _ h => h) (Or.inl ⟨by rfl, ?_⟩) (by assumption) ?_
  rotate_left
  · (intro w' hSw; (try dsimp only at hSw); go_simp; try with_reducible rfl)
  try simp only [Act.put, List.setIfInBounds_toArray, List.set_cons_zero, List.set_cons_succ]
  refine wpAnyH_take (i := 10) (v := ?_) (by simp only [List.getElem?_toArray, List.getElem?_cons_zero, List.getElem?_cons_succ]; rfl) (by kernel_rfl) (by kernel_rfl) (by kernel_rfl) (by exact fun _ _ _ h => h) (Or.inl ⟨by rfl, ?_⟩) (by assumption) ?_
  rotate_left
  · (intro w' hSw; (try dsimp only at hSw); go_simp; try with_reducible rfl)
  try simp only [Act.put, List.setIfInBounds_toArray, List.set_cons_zero, List.set_cons_succ]
  refine wpAnyH_ready (rs := [11]) (by kernel_rfl) (by simp) ?_
  refine AllReadyH.cons (by simp only [List.getElem?_toArray, List.getElem?_cons_zero, List.getElem?_cons_succ]; rfl) (fun K hK => ?_) AllReadyH.nil
  go_simp
  refine (join_any _ _ _ _ _ (R8.out.lad.after (by (repeat' (first | (with_reducible exact Below.refl _ _) | (with_reducible assumption) | (with_reducible refine boxed ?_ _) | (with_reducible refine Below.drew ?_) | (with_reducible refine after ?_ (by assumption)))); go_grown))).mono ?_; rw [HJ.out]; rintro e w8 ⟨rfl, hb8⟩
  go_wp2_with fail
  refine hK.out _ _ ?_ (fun hHeld => ?_)
  · (try dsimp only)
    (first | (go_split_ands; refine ⟨?_, ?_, ?_, ?_⟩ <;> exact keepC (by assumption) (by assumption)) | (refine ⟨?_, ?_, ?_, ?_⟩ <;> first | assumption | go_cell))
  clear hK K
  try simp only [Act.put, List.setIfInBounds_toArray, List.set_cons_zero, List.set_cons_succ]
  refine wpAnyH_ready (rs := [12]) (by kernel_rfl) (by simp) ?_
  refine AllReadyH.cons (by simp only [List.getElem?_toArray, List.getElem?_cons_zero, List.getElem?_cons_succ]; rfl) (fun K hK => ?_) AllReadyH.nil
  go_simp
  refine (lies_any _ _ _ _ _).mono ?_; rw [H1.out]; rintro e w9 ⟨rfl, hb9⟩
  go_wp2_with fail
  refine hK.out _ _ ?_ (fun hHeld => ?_)
  · (try dsimp only)
    (first | (go_split_ands; refine ⟨?_, ?_, ?_, ?_⟩ <;> exact keepC (by assumption) (by assumption)) | (refine ⟨?_, ?_, ?_, ?_⟩ <;> first | assumption | go_cell))
  clear hK K
  try simp only [Act.put, List.setIfInBounds_toArray, List.set_cons_zero, List.set_cons_succ]
  refine wpAnyH_take (i := 13) (v := ?_) (by simp only [List.getElem?_toArray, List.getElem?_cons_zero, List.getElem?_cons_succ]; rfl) (by kernel_rfl) (by kernel_rfl) (by kernel_rfl) (by exact fun _ _ _ h => h) (Or.inl ⟨by rfl, ?_⟩) (by assumption) ?_
  rotate_left
  · (intro w' hSw; (try dsimp only at hSw); go_simp; try with_reducible rfl)
  try simp only [Act.put, List.setIfInBounds_toArray, List.set_cons_zero, List.set_cons_succ]
  refine wpAnyH_take (i := 14) (v := ?_) (by simp only [List.getElem?_toArray, List.getElem?_cons_zero, List.getElem?_cons_succ]; rfl) (by kernel_rfl) (by kernel_rfl) (by kernel_rfl) (by exact fun _ _ _ h => h) (Or.inl ⟨by rfl, ?_⟩) (by assumption) ?_
  rotate_left
  · (intro w' hSw; (try dsimp only at hSw); go_simp; try with_reducible rfl)
  try simp only [Act.put, List.setIfInBounds_toArray, List.set_cons_zero, List.set_cons_succ]
  refine wpAnyH_take (i := 15) (v := ?_) (by simp only [List.getElem?_toArray, List.getElem?_cons_zero, List.getElem?_cons_succ]; rfl) (by kernel_rfl) (by kernel_rfl) (by kernel_rfl) (by exact fun _ _ _ h => h) (Or.inl ⟨by rfl, ?_⟩) (by assumption) ?_
  rotate_left
  · (intro w' hSw; (try dsimp only at hSw); go_simp; try with_reducible rfl)
  try simp only [Act.put, List.setIfInBounds_toArray, List.set_cons_zero, List.set_cons_succ]
  refine wpAnyH_take (i := 16) (v := ?_) (by simp only [List.getElem?_toArray, List.getElem?_cons_zero, List.getElem?_cons_succ]; rfl) (by kernel_rfl) (by kernel_rfl) (by kernel_rfl) (by exact fun _ _ _ h => h) (Or.inl ⟨by rfl, ?_⟩) (by assumption) ?_
  rotate_left
  · (intro w' hSw; (try dsimp only at hSw); go_simp; try with_reducible rfl)
  try simp only [Act.put, List.setIfInBounds_toArray, List.set_cons_zero, List.set_cons_succ]
  refine wpAnyH_ready (rs := [17]) (by kernel_rfl) (by simp) ?_
  refine AllReadyH.cons (by simp only [List.getElem?_toArray, List.getElem?_cons_zero, List.getElem?_cons_succ]; rfl) (fun K hK => ?_) AllReadyH.nil
  go_simp
  refine (lies_any _ _ _ _ _).mono ?_; rw [H2.out]; rintro e w10 ⟨rfl, hb10⟩
  go_wp2_with fail
  refine hK.out _ _ ?_ (fun hHeld => ?_)
  · (try dsimp only)
    (first | (go_split_ands; refine ⟨?_, ?_, ?_, ?_⟩ <;> exact keepC (by assumption) (by assumption)) | (refine ⟨?_, ?_, ?_, ?_⟩ <;> first | assumption | go_cell))
  clear hK K
  try simp only [Act.put, List.setIfInBounds_toArray, List.set_cons_zero, List.set_cons_succ]
  refine wpAnyH_take (i := 18) (v := ?_) (by simp only [List.getElem?_toArray, List.getElem?_cons_zero, List.getElem?_cons_succ]; rfl) (by kernel_rfl) (by kernel_rfl) (by kernel_rfl) (by exact fun _ _ _ h => h) (Or.inl ⟨by rfl, ?_⟩) (by assumption) ?_
  rotate_left
  · (intro w' hSw; (try dsimp only at hSw); go_simp; try with_reducible rfl)
  try simp only [Act.put, List.setIfInBounds_toArray, List.set_cons_zero, List.set_cons_succ]
  refine wpAnyH_take (i := 19) (v := undef) (by simp only [List.getElem?_toArray, List.getElem?_cons_zero, List.getElem?_cons_succ]; rfl) (by kernel_rfl) (by kernel_rfl) (by kernel_rfl) (by exact fun _ _ _ h => h) (Or.inr ⟨by rfl, rfl⟩) (by assumption) ?_
  try simp only [Act.put, List.setIfInBounds_toArray, List.set_cons_zero, List.set_cons_succ]
  refine wpAnyH_take (i := 20) (v := undef) (by simp only [List.getElem?_toArray, List.getElem?_cons_zero, List.getElem?_cons_succ]; rfl) (by kernel_rfl) (by kernel_rfl) (by kernel_rfl) (by exact fun _ _ _ h => h) (Or.inr ⟨by rfl, rfl⟩) (by assumption) ?_
  try simp only [Act.put, List.setIfInBounds_toArray, List.set_cons_zero, List.set_cons_succ]
  refine wpAnyH_take (i := 21) (v := ?_) (by simp only [List.getElem?_toArray, List.getElem?_cons_zero, List.getElem?_cons_succ]; rfl) (by kernel_rfl) (by kernel_rfl) (by kernel_rfl) (by exact fun _ _ _ h => h) (Or.inl ⟨by rfl, ?_⟩) (by assumption) ?_
  rotate_left
  · (intro w' hSw; (try dsimp only at hSw); go_simp; try with_reducible rfl)
  try simp only [Act.put, List.setIfInBounds_toArray, List.set_cons_zero, List.set_cons_succ]
  refine wpAnyH_take (i := 22) (v := ?_) (by simp only [List.getElem?_toArray, List.getElem?_cons_zero, List.getElem?_cons_succ]; rfl) (by kernel_rfl) (by kernel_rfl) (by kernel_rfl) (by exact fun _ _ _ h => h) (Or.inl ⟨by rfl, ?_⟩) (by assumption) ?_
  rotate_left
  · (intro w' hSw; (try dsimp only at hSw); go_simp; try with_reducible rfl)
  try simp only [Act.put, List.setIfInBounds_toArray, List.set_cons_zero, List.set_cons_succ]
  refine wpAnyH_take (i := 23) (v := ?_) (by simp only [List.getElem?_toArray, List.getElem?_cons_zero, List.getElem?_cons_succ]; rfl) (by kernel_rfl) (by kernel_rfl) (by kernel_rfl) (by exact fun _ _ _ h => h) (Or.inl ⟨by rfl, ?_⟩) (by assumption) ?_
  rotate_left
  · (intro w' hSw; (try dsimp only at hSw); go_simp; try with_reducible rfl)
  try simp only [Act.put, List.setIfInBounds_toArray, List.set_cons_zero, List.set_cons_succ]
  refine wpAnyH_ready (rs := [24]) (by kernel_rfl) (by simp) ?_
  refine AllReadyH.cons (by simp only [List.getElem?_toArray, List.getElem?_cons_zero, List.getElem?_cons_succ]; rfl) (fun K hK => ?_) AllReadyH.nil
  go_simp
  refine (head_true _ (R8.out.lad.after (by (repeat' (first | (with_reducible exact Below.refl _ _) | (with_reducible assumption) | (with_reducible refine boxed ?_ _) | (with_reducible refine Below.drew ?_) | (with_reducible refine after ?_ (by assumption)))); go_grown))).mono ?_; rintro e w11 ⟨rfl, hb11⟩
  go_wp2_with fail
  refine hK.out _ _ ?_ (fun hHeld => ?_)
  · (try dsimp only)
    (first | (go_split_ands; refine ⟨?_, ?_, ?_, ?_⟩ <;> exact keepC (by assumption) (by assumption)) | (refine ⟨?_, ?_, ?_, ?_⟩ <;> first | assumption | go_cell))
  clear hK K
  try simp only [Act.put, List.setIfInBounds_toArray, List.set_cons_zero, List.set_cons_succ]
  refine wpAnyH_take (i := 25) (v := ?_) (by simp only [List.getElem?_toArray, List.getElem?_cons_zero, List.getElem?_cons_succ]; rfl) (by kernel_rfl) (by kernel_rfl) (by kernel_rfl) (by exact fun _ _ _ h => h) (Or.inl ⟨by rfl, ?_⟩) (by assumption) ?_
  rotate_left
  · (intro w' hSw; (try dsimp only at hSw); go_simp; try with_reducible rfl)
  try simp only [Act.put, List.setIfInBounds_toArray, List.set_cons_zero, List.set_cons_succ]
  refine wpAnyH_take (i := 26) (v := ?_) (by simp only [List.getElem?_toArray, List.getElem?_cons_zero, List.getElem?_cons_succ]; rfl) (by kernel_rfl) (by kernel_rfl) (by kernel_rfl) (by exact fun _ _ _ h => h) (Or.inl ⟨by rfl, ?_⟩) (by assumption) ?_
  rotate_left
  · (intro w' hSw; (try dsimp only at hSw); go_simp; try with_reducible rfl)
  try simp only [Act.put, List.setIfInBounds_toArray, List.set_cons_zero, List.set_cons_succ]
  refine wpAnyH_done (by kernel_rfl) ?_ _
  go_wp2
  go_returns
  exact ⟨rfl, after R8.out.bel (by (repeat' (first | (with_reducible exact Below.refl _ _) | (with_reducible assumption) | (with_reducible refine boxed ?_ _) | (with_reducible refine Below.drew ?_) | (with_reducible refine after ?_ (by assumption)))); go_grown)⟩

set_option maxHeartbeats 8000000 in
theorem sound_no2 (op a0 a1 b0 b1 x y p q xx yy s t v j0 j1 : Int) (w : World) (L : Laid w) (h0 : 0 ≤ op) (hb0 : I64 b0) (hb1 : I64 b1) (hy64 : I64 yy) (hab : ¬ a1 < a0) (hcd : ¬ b1 < b0)
    (hr : rangeV op a0 a1 b0 b1 = .agg #[.int .i64 p, .int .i64 q]) (hX : max a0 (min a1 x) = xx) (hY : max b0 (min b1 y) = yy) (hs : rangeV op xx xx yy yy = .agg #[.int .i64 s, .int .i64 t]) (hj : joinV p q s t = .agg #[.int .i64 j0, .int .i64 j1])
    (hv : wrapV op xx yy = v) (ho : opHas op yy = false) (hl1 : liesB s t j0 j1 = true) (hl2 : liesB s t p q = false) :
    Calls Tryd.prog 8 #[.int .u8 op, .agg #[.int .i64 a0, .int .i64 a1], .agg #[.int .i64 b0, .int .i64 b1], .int .i64 x, .int .i64 y] w (Gives w (.bool true)) := by
  have R0 := Lib.hid (SBox.start w a0 a1 b0 b1 L)
  have HX := Lib.hid hX
  have HY := Lib.hid hY
  have HS := Lib.hid hs
  have HJ := Lib.hid hj
  have HV := Lib.hid hv
  have HO := Lib.hid ho
  have H1 := Lib.hid hl1
  have H2 := Lib.hid hl2
  have HYI := Lib.hid hy64
  clear L hX hY hs hj hv ho hl1 hl2 hy64
  go_enter Tryd.func8, Tryd.ntmps8
  go_wp2_with fail
  refine (range_any _ _ _ _ _ _ R0.out.lad h0 hb0 hb1).mono ?_; rw [hr]; rintro e w1 ⟨rfl, hb⟩
  have R1 := Lib.hid (R0.out.below hb)
  have R2 := Lib.hid (R1.out.alloc (.cells #[.int .i64 p, .int .i64 q] 29))
  have r0 : (w1.alloc (.cells #[.int .i64 p, .int .i64 q] 29)).cell? ⟨w1.heap.size, 0, none⟩ = some (.int .i64 p) := by go_cell
  have r1 : (w1.alloc (.cells #[.int .i64 p, .int .i64 q] 29)).cell? ⟨w1.heap.size, 1, none⟩ = some (.int .i64 q) := by go_cell
  clear hb
  obtain ⟨k0, k1, k2, k3, _, _⟩ := R2.out
  go_wp2_with fail
  go_region_held3 (fun w' => w'.cell? ⟨w.heap.size, 0, none⟩ = some (.int .i64 a0) ∧ w'.cell? ⟨w.heap.size, 1, none⟩ = some (.int .i64 a1) ∧ w'.cell? ⟨w.heap.size + 1, 0, none⟩ = some (.int .i64 b0) ∧ w'.cell? ⟨w.heap.size + 1, 1, none⟩ = some (.int .i64 b1) ∧ w'.cell? ⟨w1.heap.size, 0, none⟩ = some (.int .i64 p) ∧ w'.cell? ⟨w1.heap.size, 1, none⟩ = some (.int .i64 q))
    (first | (go_split_ands; refine ⟨?_, ?_, ?_, ?_, ?_, ?_⟩ <;> exact keepC (by assumption) (by assumption)) | (refine ⟨?_, ?_, ?_, ?_, ?_, ?_⟩ <;> first | assumption | go_cell))
    (first
      | (go_at_call_of 31 (Value.int IntKind.i64 x); refine (inside_any _ _ _ _).mono ?_; rw [HX.out]; rintro e w2 ⟨rfl, hb⟩)
      | (go_at_call_of 31 (Value.int IntKind.i64 y); refine (inside_any _ _ _ _).mono ?_; rw [HY.out]; rintro e w2 ⟨rfl, hb⟩))
  rename_i w2' hb' hh
  obtain ⟨k0, k1, k2, k3, r0, r1⟩ := hh
  have R3 := Lib.hid (R2.out.below (w1 := w2) (after (Below.drew (Below.refl _ _)) (after hb' hb)))
  clear R0 R1 R2
  go_wp2_with fail
  refine (wrap_any _ _ _ h0 _).mono ?_; rw [HV.out, HO.out]; rintro e w3 ⟨rfl, hb⟩
  have R4 := Lib.hid (R3.out.below hb)
  replace k0 := keepC hb k0
  replace k1 := keepC hb k1
  replace k2 := keepC hb k2
  replace k3 := keepC hb k3
  replace r0 := keepC hb r0
  replace r1 := keepC hb r1
  clear hb R3
  clear k0 k1 k2 k3
  go_wp2_with fail
  refine (ival_agg _ _ _).mono ?_; rintro e w4 ⟨rfl, hb⟩
  have R5 := Lib.hid (R4.out.below hb)
  replace r0 := keepC hb r0
  replace r1 := keepC hb r1
  clear hb R4
  go_wp2_with fail
  refine (ival_agg _ _ _).mono ?_; rintro e w5 ⟨rfl, hb⟩
  have R6 := Lib.hid (R5.out.below hb)
  replace r0 := keepC hb r0
  replace r1 := keepC hb r1
  clear hb R5
  go_wp2_with fail
  refine (range_any _ _ _ _ _ _ R6.out.lad h0 HYI.out HYI.out).mono ?_; rw [HS.out]; rintro e w6 ⟨rfl, hb⟩
  have R7 := Lib.hid (R6.out.below hb)
  replace r0 := keepC hb r0
  replace r1 := keepC hb r1
  clear hb R6
  have R8 := Lib.hid (R7.out.alloc (.cells #[.int .i64 s, .int .i64 t] 29))
  have s0 : (w6.alloc (.cells #[.int .i64 s, .int .i64 t] 29)).cell? ⟨w6.heap.size, 0, none⟩ = some (.int .i64 s) := by go_cell
  have s1 : (w6.alloc (.cells #[.int .i64 s, .int .i64 t] 29)).cell? ⟨w6.heap.size, 1, none⟩ = some (.int .i64 t) := by go_cell
  replace r0 := keepC (boxed (Below.refl _ _) (.cells #[.int .i64 s, .int .i64 t] 29)) r0
  replace r1 := keepC (boxed (Below.refl _ _) (.cells #[.int .i64 s, .int .i64 t] 29)) r1
  clear R7
  go_wp2_with fail
  refine wp_region_held_drew (S := fun w' => w'.cell? ⟨w1.heap.size, 0, none⟩ = some (.int .i64 p) ∧ w'.cell? ⟨w1.heap.size, 1, none⟩ = some (.int .i64 q) ∧ w'.cell? ⟨w6.heap.size, 0, none⟩ = some (.int .i64 s) ∧ w'.cell? ⟨w6.heap.size, 1, none⟩ = some (.int .i64 t)) (by kernel_rfl) ?_ (fun hHeld => ?_)
  · (try dsimp only)
    (first | (go_split_ands; refine ⟨?_, ?_, ?_, ?_⟩ <;> exact keepC (by assumption) (by assumption)) | (refine ⟨?_, ?_, ?_, ?_⟩ <;> first | assumption | go_cell))
  refine wpAnyH_take (i := 0) (v := ?_) (by simp only [List.getElem?_toArray, List.getElem?_cons_zero, List.getElem?_cons_succ]; rfl) (by kernel_rfl) (by kernel_rfl) (by kernel_rfl) (by exact fun _ _ _ h => h) (Or.inl ⟨by rfl, ?_⟩) (by assumption) ?_
  rotate_left
  · (intro w' hSw; (try dsimp only at hSw); go_simp; try with_reducible rfl)
  try simp only [Act.put, List.setIfInBounds_toArray, List.set_cons_zero, List.set_cons_succ]
  refine wpAnyH_take (i := 1) (v := ?_) (by simp only [List.getElem?_toArray, List.getElem?_cons_zero, List.getElem?_cons_succ]; rfl) (by kernel_rfl) (by kernel_rfl) (by kernel_rfl) (by exact fun _ _ _ h => h) (Or.inl ⟨by rfl, ?_⟩) (by assumption) ?_
  rotate_left
  · (intro w' hSw; (try dsimp only at hSw); go_simp; try with_reducible rfl)
  try simp only [Act.put, List.setIfInBounds_toArray, List.set_cons_zero, List.set_cons_succ]
  refine wpAnyH_take (i := 2) (v := ?_) (by simp only [List.getElem?_toArray, List.getElem?_cons_zero, List.getElem?_cons_succ]; rfl) (by kernel_rfl) (by kernel_rfl) (by kernel_rfl) (by exact fun _ _ _ h => h) (Or.inl ⟨by rfl, ?_⟩) (by assumption) ?_
  rotate_left
  · (intro w' hSw; (try dsimp only at hSw); go_simp; try with_reducible rfl)
  try simp only [Act.put, List.setIfInBounds_toArray, List.set_cons_zero, List.set_cons_succ]
  refine wpAnyH_take (i := 3) (v := undef) (by simp only [List.getElem?_toArray, List.getElem?_cons_zero, List.getElem?_cons_succ]; rfl) (by kernel_rfl) (by kernel_rfl) (by kernel_rfl) (by exact fun _ _ _ h => h) (Or.inr ⟨by rfl, rfl⟩) (by assumption) ?_
  try simp only [Act.put, List.setIfInBounds_toArray, List.set_cons_zero, List.set_cons_succ]
  refine wpAnyH_take (i := 4) (v := undef) (by simp only [List.getElem?_toArray, List.getElem?_cons_zero, List.getElem?_cons_succ]; rfl) (by kernel_rfl) (by kernel_rfl) (by kernel_rfl) (by exact fun _ _ _ h => h) (Or.inr ⟨by rfl, rfl⟩) (by assumption) ?_
  try simp only [Act.put, List.setIfInBounds_toArray, List.set_cons_zero, List.set_cons_succ]
  refine wpAnyH_take (i := 5) (v := undef) (by simp only [List.getElem?_toArray, List.getElem?_cons_zero, List.getElem?_cons_succ]; rfl) (by kernel_rfl) (by kernel_rfl) (by kernel_rfl) (by exact fun _ _ _ h => h) (Or.inr ⟨by rfl, rfl⟩) (by assumption) ?_
  try simp only [Act.put, List.setIfInBounds_toArray, List.set_cons_zero, List.set_cons_succ]
  refine wpAnyH_take (i := 6) (v := ?_) (by simp only [List.getElem?_toArray, List.getElem?_cons_zero, List.getElem?_cons_succ]; rfl) (by kernel_rfl) (by kernel_rfl) (by kernel_rfl) (by exact fun _ _ _ h => h) (Or.inl ⟨by rfl, ?_⟩) (by assumption) ?_
  rotate_left
  · (intro w' hSw; (try dsimp only at hSw); go_simp; try with_reducible rfl)
  try simp only [Act.put, List.setIfInBounds_toArray, List.set_cons_zero, List.set_cons_succ]
  refine wpAnyH_take (i := 7) (v := ?_) (by simp only [List.getElem?_toArray, List.getElem?_cons_zero, List.getElem?_cons_succ]; rfl) (by kernel_rfl) (by kernel_rfl) (by kernel_rfl) (by exact fun _ _ _ h => h) (Or.inl ⟨by rfl, ?_⟩) (by assumption) ?_
  rotate_left
  · (intro w' hSw; (try dsimp only at hSw); go_simp; try with_reducible rfl)
  try simp only [Act.put, List.setIfInBounds_toArray, List.set_cons_zero, List.set_cons_succ]
  refine wpAnyH_take (i := 8) (v := ?_) (by simp only [List.getElem?_toArray, List.getElem?_cons_zero, List.getElem?_cons_succ]; rfl) (by kernel_rfl) (by kernel_rfl) (by kernel_rfl) (by exact fun _ _ _ h => h) (Or.inl ⟨by rfl, ?_⟩) (by assumption) ?_
  rotate_left
  · (intro w' hSw; (try dsimp only at hSw); go_simp; try with_reducible rfl)
  try simp only [Act.put, List.setIfInBounds_toArray, List.set_cons_zero, List.set_cons_succ]
  refine wpAnyH_take (i := 9) (v := ?_) (by simp only [List.getElem?_toArray, List.getElem?_cons_zero, List.getElem?_cons_succ]; rfl) (by kernel_rfl) (by kernel_rfl) (by kernel_rfl) (by exact fun _ _ _ h => h) (Or.inl ⟨by rfl, ?_⟩) (by assumption) ?_
  rotate_left
  · (intro w' hSw; (try dsimp only at hSw); go_simp; try with_reducible rfl)
  try simp only [Act.put, List.setIfInBounds_toArray, List.set_cons_zero, List.set_cons_succ]
  refine wpAnyH_take (i := 10) (v := ?_) (by simp only [List.getElem?_toArray, List.getElem?_cons_zero, List.getElem?_cons_succ]; rfl) (by kernel_rfl) (by kernel_rfl) (by kernel_rfl) (by exact fun _ _ _ h => h) (Or.inl ⟨by rfl, ?_⟩) (by assumption) ?_
  rotate_left
  · (intro w' hSw; (try dsimp only at hSw); go_simp; try with_reducible rfl)
  try simp only [Act.put, List.setIfInBounds_toArray, List.set_cons_zero, List.set_cons_succ]
  refine wpAnyH_ready (rs := [11]) (by kernel_rfl) (by simp) ?_
  refine AllReadyH.cons (by simp only [List.getElem?_toArray, List.getElem?_cons_zero, List.getElem?_cons_succ]; rfl) (fun K hK => ?_) AllReadyH.nil
  go_simp
  refine (join_any _ _ _ _ _ (R8.out.lad.after (by (repeat' (first | (with_reducible exact Below.refl _ _) | (with_reducible assumption) | (with_reducible refine boxed ?_ _) | (with_reducible refine Below.drew ?_) | (with_reducible refine after ?_ (by assumption)))); go_grown))).mono ?_; rw [HJ.out]; rintro e w8 ⟨rfl, hb8⟩
  go_wp2_with fail
  refine hK.out _ _ ?_ (fun hHeld => ?_)
  · (try dsimp only)
    (first | (go_split_ands; refine ⟨?_, ?_, ?_, ?_⟩ <;> exact keepC (by assumption) (by assumption)) | (refine ⟨?_, ?_, ?_, ?_⟩ <;> first | assumption | go_cell))
  clear hK K
  try simp only [Act.put, List.setIfInBounds_toArray, List.set_cons_zero, List.set_cons_succ]
  refine wpAnyH_ready (rs := [12]) (by kernel_rfl) (by simp) ?_
  refine AllReadyH.cons (by simp only [List.getElem?_toArray, List.getElem?_cons_zero, List.getElem?_cons_succ]; rfl) (fun K hK => ?_) AllReadyH.nil
  go_simp
  refine (lies_any _ _ _ _ _).mono ?_; rw [H1.out]; rintro e w9 ⟨rfl, hb9⟩
  go_wp2_with fail
  refine hK.out _ _ ?_ (fun hHeld => ?_)
  · (try dsimp only)
    (first | (go_split_ands; refine ⟨?_, ?_, ?_, ?_⟩ <;> exact keepC (by assumption) (by assumption)) | (refine ⟨?_, ?_, ?_, ?_⟩ <;> first | assumption | go_cell))
  clear hK K
  try simp only [Act.put, List.setIfInBounds_toArray, List.set_cons_zero, List.set_cons_succ]
  refine wpAnyH_take (i := 13) (v := ?_) (by simp only [List.getElem?_toArray, List.getElem?_cons_zero, List.getElem?_cons_succ]; rfl) (by kernel_rfl) (by kernel_rfl) (by kernel_rfl) (by exact fun _ _ _ h => h) (Or.inl ⟨by rfl, ?_⟩) (by assumption) ?_
  rotate_left
  · (intro w' hSw; (try dsimp only at hSw); go_simp; try with_reducible rfl)
  try simp only [Act.put, List.setIfInBounds_toArray, List.set_cons_zero, List.set_cons_succ]
  refine wpAnyH_take (i := 14) (v := ?_) (by simp only [List.getElem?_toArray, List.getElem?_cons_zero, List.getElem?_cons_succ]; rfl) (by kernel_rfl) (by kernel_rfl) (by kernel_rfl) (by exact fun _ _ _ h => h) (Or.inl ⟨by rfl, ?_⟩) (by assumption) ?_
  rotate_left
  · (intro w' hSw; (try dsimp only at hSw); go_simp; try with_reducible rfl)
  try simp only [Act.put, List.setIfInBounds_toArray, List.set_cons_zero, List.set_cons_succ]
  refine wpAnyH_take (i := 15) (v := ?_) (by simp only [List.getElem?_toArray, List.getElem?_cons_zero, List.getElem?_cons_succ]; rfl) (by kernel_rfl) (by kernel_rfl) (by kernel_rfl) (by exact fun _ _ _ h => h) (Or.inl ⟨by rfl, ?_⟩) (by assumption) ?_
  rotate_left
  · (intro w' hSw; (try dsimp only at hSw); go_simp; try with_reducible rfl)
  try simp only [Act.put, List.setIfInBounds_toArray, List.set_cons_zero, List.set_cons_succ]
  refine wpAnyH_take (i := 16) (v := ?_) (by simp only [List.getElem?_toArray, List.getElem?_cons_zero, List.getElem?_cons_succ]; rfl) (by kernel_rfl) (by kernel_rfl) (by kernel_rfl) (by exact fun _ _ _ h => h) (Or.inl ⟨by rfl, ?_⟩) (by assumption) ?_
  rotate_left
  · (intro w' hSw; (try dsimp only at hSw); go_simp; try with_reducible rfl)
  try simp only [Act.put, List.setIfInBounds_toArray, List.set_cons_zero, List.set_cons_succ]
  refine wpAnyH_ready (rs := [17]) (by kernel_rfl) (by simp) ?_
  refine AllReadyH.cons (by simp only [List.getElem?_toArray, List.getElem?_cons_zero, List.getElem?_cons_succ]; rfl) (fun K hK => ?_) AllReadyH.nil
  go_simp
  refine (lies_any _ _ _ _ _).mono ?_; rw [H2.out]; rintro e w10 ⟨rfl, hb10⟩
  go_wp2_with fail
  refine hK.out _ _ ?_ (fun hHeld => ?_)
  · (try dsimp only)
    (first | (go_split_ands; refine ⟨?_, ?_, ?_, ?_⟩ <;> exact keepC (by assumption) (by assumption)) | (refine ⟨?_, ?_, ?_, ?_⟩ <;> first | assumption | go_cell))
  clear hK K
  try simp only [Act.put, List.setIfInBounds_toArray, List.set_cons_zero, List.set_cons_succ]
  refine wpAnyH_take (i := 18) (v := ?_) (by simp only [List.getElem?_toArray, List.getElem?_cons_zero, List.getElem?_cons_succ]; rfl) (by kernel_rfl) (by kernel_rfl) (by kernel_rfl) (by exact fun _ _ _ h => h) (Or.inl ⟨by rfl, ?_⟩) (by assumption) ?_
  rotate_left
  · (intro w' hSw; (try dsimp only at hSw); go_simp; try with_reducible rfl)
  try simp only [Act.put, List.setIfInBounds_toArray, List.set_cons_zero, List.set_cons_succ]
  refine wpAnyH_take (i := 19) (v := ?_) (by simp only [List.getElem?_toArray, List.getElem?_cons_zero, List.getElem?_cons_succ]; rfl) (by kernel_rfl) (by kernel_rfl) (by kernel_rfl) (by exact fun _ _ _ h => h) (Or.inl ⟨by rfl, ?_⟩) (by assumption) ?_
  rotate_left
  · (intro w' hSw; (try dsimp only at hSw); go_simp; try with_reducible rfl)
  try simp only [Act.put, List.setIfInBounds_toArray, List.set_cons_zero, List.set_cons_succ]
  refine wpAnyH_take (i := 20) (v := ?_) (by simp only [List.getElem?_toArray, List.getElem?_cons_zero, List.getElem?_cons_succ]; rfl) (by kernel_rfl) (by kernel_rfl) (by kernel_rfl) (by exact fun _ _ _ h => h) (Or.inl ⟨by rfl, ?_⟩) (by assumption) ?_
  rotate_left
  · (intro w' hSw; (try dsimp only at hSw); go_simp; try with_reducible rfl)
  try simp only [Act.put, List.setIfInBounds_toArray, List.set_cons_zero, List.set_cons_succ]
  refine wpAnyH_take (i := 21) (v := ?_) (by simp only [List.getElem?_toArray, List.getElem?_cons_zero, List.getElem?_cons_succ]; rfl) (by kernel_rfl) (by kernel_rfl) (by kernel_rfl) (by exact fun _ _ _ h => h) (Or.inl ⟨by rfl, ?_⟩) (by assumption) ?_
  rotate_left
  · (intro w' hSw; (try dsimp only at hSw); go_simp; try with_reducible rfl)
  try simp only [Act.put, List.setIfInBounds_toArray, List.set_cons_zero, List.set_cons_succ]
  refine wpAnyH_take (i := 22) (v := ?_) (by simp only [List.getElem?_toArray, List.getElem?_cons_zero, List.getElem?_cons_succ]; rfl) (by kernel_rfl) (by kernel_rfl) (by kernel_rfl) (by exact fun _ _ _ h => h) (Or.inl ⟨by rfl, ?_⟩) (by assumption) ?_
  rotate_left
  · (intro w' hSw; (try dsimp only at hSw); go_simp; try with_reducible rfl)
  try simp only [Act.put, List.setIfInBounds_toArray, List.set_cons_zero, List.set_cons_succ]
  refine wpAnyH_take (i := 23) (v := ?_) (by simp only [List.getElem?_toArray, List.getElem?_cons_zero, List.getElem?_cons_succ]; rfl) (by kernel_rfl) (by kernel_rfl) (by kernel_rfl) (by exact fun _ _ _ h => h) (Or.inl ⟨by rfl, ?_⟩) (by assumption) ?_
  rotate_left
  · (intro w' hSw; (try dsimp only at hSw); go_simp; try with_reducible rfl)
  try simp only [Act.put, List.setIfInBounds_toArray, List.set_cons_zero, List.set_cons_succ]
  refine wpAnyH_ready (rs := [24]) (by kernel_rfl) (by simp) ?_
  refine AllReadyH.cons (by simp only [List.getElem?_toArray, List.getElem?_cons_zero, List.getElem?_cons_succ]; rfl) (fun K hK => ?_) AllReadyH.nil
  go_simp
  refine (head_true _ (R8.out.lad.after (by (repeat' (first | (with_reducible exact Below.refl _ _) | (with_reducible assumption) | (with_reducible refine boxed ?_ _) | (with_reducible refine Below.drew ?_) | (with_reducible refine after ?_ (by assumption)))); go_grown))).mono ?_; rintro e w11 ⟨rfl, hb11⟩
  go_wp2_with fail
  refine hK.out _ _ ?_ (fun hHeld => ?_)
  · (try dsimp only)
    (first | (go_split_ands; refine ⟨?_, ?_, ?_, ?_⟩ <;> exact keepC (by assumption) (by assumption)) | (refine ⟨?_, ?_, ?_, ?_⟩ <;> first | assumption | go_cell))
  clear hK K
  try simp only [Act.put, List.setIfInBounds_toArray, List.set_cons_zero, List.set_cons_succ]
  refine wpAnyH_take (i := 25) (v := ?_) (by simp only [List.getElem?_toArray, List.getElem?_cons_zero, List.getElem?_cons_succ]; rfl) (by kernel_rfl) (by kernel_rfl) (by kernel_rfl) (by exact fun _ _ _ h => h) (Or.inl ⟨by rfl, ?_⟩) (by assumption) ?_
  rotate_left
  · (intro w' hSw; (try dsimp only at hSw); go_simp; try with_reducible rfl)
  try simp only [Act.put, List.setIfInBounds_toArray, List.set_cons_zero, List.set_cons_succ]
  refine wpAnyH_take (i := 26) (v := ?_) (by simp only [List.getElem?_toArray, List.getElem?_cons_zero, List.getElem?_cons_succ]; rfl) (by kernel_rfl) (by kernel_rfl) (by kernel_rfl) (by exact fun _ _ _ h => h) (Or.inl ⟨by rfl, ?_⟩) (by assumption) ?_
  rotate_left
  · (intro w' hSw; (try dsimp only at hSw); go_simp; try with_reducible rfl)
  try simp only [Act.put, List.setIfInBounds_toArray, List.set_cons_zero, List.set_cons_succ]
  refine wpAnyH_done (by kernel_rfl) ?_ _
  go_wp2
  go_returns
  exact ⟨rfl, after R8.out.bel (by (repeat' (first | (with_reducible exact Below.refl _ _) | (with_reducible assumption) | (with_reducible refine boxed ?_ _) | (with_reducible refine Below.drew ?_) | (with_reducible refine after ?_ (by assumption)))); go_grown)⟩

theorem lies_join {p q s t j0 j1 : Int} (h : joinV p q s t = .agg #[.int .i64 j0, .int .i64 j1]) : liesB s t j0 j1 = true := by
  unfold joinV iv at h
  unfold liesB
  rw [decide_eq_true_iff]
  split at h
  · split at h
    · left; assumption
    · simp at h
      obtain ⟨rfl, rfl⟩ := h
      right; omega
  · split at h
    · left; assumption
    · simp at h
      obtain ⟨rfl, rfl⟩ := h
      right; omega

theorem law_numSound (op a0 a1 b0 b1 x y : Int) (w : World) (L : Laid w) (ho : 0 ≤ op ∧ op ≤ 255) (ha0 : -9223372036854775808 ≤ a0 ∧ a0 ≤ 9223372036854775807) (ha1 : -9223372036854775808 ≤ a1 ∧ a1 ≤ 9223372036854775807) (hb0 : -9223372036854775808 ≤ b0 ∧ b0 ≤ 9223372036854775807) (hb1 : -9223372036854775808 ≤ b1 ∧ b1 ≤ 9223372036854775807) (_hx : -9223372036854775808 ≤ x ∧ x ≤ 9223372036854775807) (_hy : -9223372036854775808 ≤ y ∧ y ≤ 9223372036854775807) :
    Calls Tryd.prog 8 #[.int .u8 op, .agg #[.int .i64 a0, .int .i64 a1], .agg #[.int .i64 b0, .int .i64 b1], .int .i64 x, .int .i64 y] w (Gives w (.bool true)) := by
  obtain ⟨h0, _⟩ := ho
  have hr : rangeV op a0 a1 b0 b1 = .agg #[.int .i64 (rLo op a0 a1 b0 b1), .int .i64 (rHi op a0 a1 b0 b1)] := range_eq op a0 a1 b0 b1
  by_cases h : a1 < a0 ∨ b1 < b0
  · by_cases hab : a1 < a0
    · rcases range_none (op := op) h with ⟨h1, _⟩ | h1
      · exact absurd hab h1
      · exact sound_none1 op a0 a1 b0 b1 x y _ _ w L h0 hb0 hb1 hab hr h1
    · by_cases h2 : op = 16 ∨ op = 17 ∨ op = 18
      · exact sound_none2 op a0 a1 b0 b1 x y _ _ w L h0 hb0 hb1 hab (by omega) h2 hr
      · rcases range_none (op := op) h with ⟨_, h3⟩ | h1
        · exact absurd h3 h2
        · exact sound_none3 op a0 a1 b0 b1 x y _ _ w L h0 hb0 hb1 hab (by omega) (by omega) (by omega) (by omega) hr h1
  · have hX : ∃ xx, max a0 (min a1 x) = xx ∧ a0 ≤ xx ∧ xx ≤ a1 := ⟨_, rfl, by omega, by omega⟩
    have hY : ∃ yy, max b0 (min b1 y) = yy ∧ b0 ≤ yy ∧ yy ≤ b1 := ⟨_, rfl, by omega, by omega⟩
    obtain ⟨xx, hX, x1, x2⟩ := hX
    obtain ⟨yy, hY, y1, y2⟩ := hY
    have hs : rangeV op xx xx yy yy = .agg #[.int .i64 (rLo op xx xx yy yy), .int .i64 (rHi op xx xx yy yy)] := range_eq op xx xx yy yy
    obtain ⟨j0, j1, hj⟩ := join_iv (rLo op a0 a1 b0 b1) (rHi op a0 a1 b0 b1) (rLo op xx xx yy yy) (rHi op xx xx yy yy)
    have hl1 := lies_join hj
    have hyy : I64 yy := by unfold I64; omega
    cases hk : opHas op yy
    · cases hz : liesB (rLo op xx xx yy yy) (rHi op xx xx yy yy) (rLo op a0 a1 b0 b1) (rHi op a0 a1 b0 b1)
      · exact sound_no2 op a0 a1 b0 b1 x y _ _ xx yy _ _ _ _ _ w L h0 hb0 hb1 hyy (by omega) (by omega) hr hX hY hs hj rfl hk hl1 hz
      · exact sound_no1 op a0 a1 b0 b1 x y _ _ xx yy _ _ _ _ _ w L h0 hb0 hb1 hyy (by omega) (by omega) hr hX hY hs hj rfl hk hl1 hz
    · obtain ⟨k1, k2, k3⟩ := of_decide_eq_true hk
      obtain ⟨⟨s1, s2⟩, s3, s4⟩ := range_sound (op := op) (x := xx) (y := yy) k1 k2 ha0 ha1 hb0 hb1 x1 x2 y1 y2 (fun h4 h5 => k3 ⟨h4.1, h4.2, h5⟩)
      have hv : wrapV op xx yy = opVal op xx yy := by unfold wrapV; rw [if_pos hk]
      exact sound_yes op a0 a1 b0 b1 x y _ _ xx yy _ _ _ _ _ w L h0 hb0 hb1 hyy (by omega) (by omega) hr hX hY hs hj hv hk (decide_eq_true ⟨s1, s2⟩) hl1 (decide_eq_true (Or.inr ⟨s3, s4⟩))

end Go.Proofs.YtmmplaabgnmkcaaDoor
