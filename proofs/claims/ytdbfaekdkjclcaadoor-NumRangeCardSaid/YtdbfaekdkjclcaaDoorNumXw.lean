
/-
  THE WALK OF THE LAW NumExact.
-/
import Derived.Test.YtdbfaekdkjclcaaDoorNumRa
import Derived.Test.YtdbfaekdkjclcaaDoorNumLe
import Derived.Test.YtdbfaekdkjclcaaDoorNumXm
namespace Go.Proofs.YtdbfaekdkjclcaaDoor
open Go Go.RowKit

theorem and7 : ∀ i : Fin 256, 0 ≤ bits .and .i64 ((i.val : Int) - 128) 7 ∧ bits .and .i64 ((i.val : Int) - 128) 7 ≤ 7 := by decide +kernel
theorem and7_of {m : Int} (h1 : -128 ≤ m) (h2 : m ≤ 127) : 0 ≤ bits .and .i64 m 7 ∧ bits .and .i64 m 7 ≤ 7 := by
  have := and7 ⟨(m + 128).toNat, by omega⟩
  rw [show (((m + 128).toNat : Nat) : Int) - 128 = m by omega] at this
  exact this
theorem mod21 (p : Int) : -20 ≤ p.tmod 21 ∧ p.tmod 21 ≤ 20 := by
  have h : (p.tmod 21).natAbs < 21 := by
    rw [Int.natAbs_tmod]
    exact Nat.mod_lt _ (by omega)
  omega

/-- A variable of two cells, of the call's own. -/
structure Var2 (w W : World) (g : Nat) (x y : Int) : Prop where
  far : w.heap.size ≤ g
  lt : g < W.heap.size
  c0 : W.cell? ⟨g, 0, none⟩ = some (.int .i64 x)
  c1 : W.cell? ⟨g, 1, none⟩ = some (.int .i64 y)
  f0 : W.frozen? ⟨g, 0, none⟩ = false
  f1 : W.frozen? ⟨g, 1, none⟩ = false
theorem Var2.below {w W w1 : World} {g : Nat} {x y : Int} (h : Var2 w W g x y) (hb : Below W.heap.size W w1) : Var2 w w1 g x y :=
  ⟨h.far, by have := hb.size; have := h.lt; omega, keepC hb h.c0, keepC hb h.c1, keepF hb h.c0 h.f0, keepF hb h.c1 h.f1⟩
theorem Var2.alloc {w W : World} {g : Nat} {x y : Int} (h : Var2 w W g x y) (o : Obj) : Var2 w (W.alloc o) g x y := h.below ((Below.refl _ _).alloc (Nat.le_refl _) o)
theorem Var2.made {w W : World} (h : w.heap.size ≤ W.heap.size) (x y : Int) : Var2 w (W.alloc (.cells #[.int .i64 x, .int .i64 y] 24)) W.heap.size x y :=
  ⟨h, by simp, by go_cell, by go_cell, by go_cell, by go_cell⟩
theorem Var2.far_store {w W : World} {g g' : Nat} {x y : Int} (h : Var2 w W g x y) (hne : ¬ g' = g) (u u' : Value) : Var2 w ((W.setCell ⟨g', 0, none⟩ u).setCell ⟨g', 1, none⟩ u') g x y :=
  ⟨h.far, by simpa using h.lt, keepS u u' h.c0 hne, keepS u u' h.c1 hne, by rw [World.frozen?_setCell, World.frozen?_setCell]; exact h.f0, by rw [World.frozen?_setCell, World.frozen?_setCell]; exact h.f1⟩
theorem Var2.store {w W : World} {g : Nat} {x y : Int} (h : Var2 w W g x y) (x' y' : Int) : Var2 w ((W.setCell ⟨g, 0, none⟩ (.int .i64 x')).setCell ⟨g, 1, none⟩ (.int .i64 y')) g x' y' :=
  ⟨h.far, by simpa using h.lt, by rw [World.cell?_setCell_other _ _ _ _ (by simp)]; exact World.cell?_setCell_same _ _ _ h.c0,
    World.cell?_setCell_same _ _ _ (by rw [World.cell?_setCell_other _ _ _ _ (by simp)]; exact h.c1), by rw [World.frozen?_setCell, World.frozen?_setCell]; exact h.f0, by rw [World.frozen?_setCell, World.frozen?_setCell]; exact h.f1⟩

/-- WHAT HOLDS between two rounds: the operands' intervals, the hull of the values so far. -/
structure XInv (w : World) (A B H : Nat) (a0 a1 b0 b1 op : Int) (W : World) (x y lo hi : Int) : Prop where
  vA : Var2 w W A a0 a1
  vB : Var2 w W B b0 b1
  vH : Var2 w W H lo hi
  dA : ¬ H = A
  dB : ¬ H = B
  bel : Below w.heap.size w W
  hull : Hull (Done op a0 a1 b0 b1 x y) lo hi

theorem ival_lit (lo hi : Int) (w : World) : Calls Tryd.prog 15 #[.int .i64 lo, .int .i64 hi] w (Gives w (.agg #[.int .i64 lo, .int .i64 hi])) := ival_any lo hi w

set_option maxRecDepth 100000 in
set_option maxHeartbeats 4000000 in
theorem exact_main (op p q m n : Int) (w : World) (L : Laid w) (h0 : 0 ≤ op) (n5 : ¬ op = 5) (n6 : ¬ op = 6) (n13 : ¬ (13 ≤ op ∧ op ≤ 15)) (hp : -128 ≤ p ∧ p ≤ 127) (hq : -128 ≤ q ∧ q ≤ 127) (hm : -128 ≤ m ∧ m ≤ 127) (hn : -128 ≤ n ∧ n ≤ 127) :
    Calls Tryd.prog 6 #[.int .u8 op, .int .i8 p, .int .i8 q, .int .i8 m, .int .i8 n] w (Gives w (.bool true)) := by
  have t5 : (op == 5) = false := beq_eq_false_iff_ne.2 n5
  have t6 : (op == 6) = false := beq_eq_false_iff_ne.2 n6
  have t13 : (op == 13) = false := beq_eq_false_iff_ne.2 (by omega)
  have t14 : (op == 14) = false := beq_eq_false_iff_ne.2 (by omega)
  have t15 : (op == 15) = false := beq_eq_false_iff_ne.2 (by omega)
  obtain ⟨p1, p2⟩ := mod21 p
  obtain ⟨q1, q2⟩ := mod21 q
  obtain ⟨m1, m2⟩ := and7_of hm.1 hm.2
  obtain ⟨n1, n2⟩ := and7_of hn.1 hn.2
  obtain ⟨p3, p4⟩ := hp
  obtain ⟨q3, q4⟩ := hq
  obtain ⟨m3, m4⟩ := hm
  obtain ⟨n3, n4⟩ := hn
  have HL := Lib.hid L
  clear L
  go_enter Tryd.func6, Tryd.ntmps6
  go_wp2_with fail
  have A1 : Hid (-20 ≤ p.tmod 21 ∧ p.tmod 21 ≤ 20 ∧ p.tmod 21 ≤ p.tmod 21 + bits .and .i64 m 7 ∧ p.tmod 21 + bits .and .i64 m 7 ≤ 27) := (by show _ ∧ _; omega)
  have B1 : Hid (-20 ≤ q.tmod 21 ∧ q.tmod 21 ≤ 20 ∧ q.tmod 21 ≤ q.tmod 21 + bits .and .i64 n 7 ∧ q.tmod 21 + bits .and .i64 n 7 ≤ 27) := (by show _ ∧ _; omega)
  refine (ival_lit _ _ _).mono ?_
  rintro e w1 ⟨rfl, hb1⟩
  go_wp2_with fail
  refine (ival_lit _ _ _).mono ?_
  rintro e w2 ⟨rfl, hb2⟩
  generalize p.tmod 21 + bits .and .i64 m 7 = a1 at *
  generalize q.tmod 21 + bits .and .i64 n 7 = b1 at *
  generalize p.tmod 21 = a0 at *
  generalize q.tmod 21 = b0 at *
  go_wp2_with fail
  refine (ival_lit _ _ _).mono ?_
  rintro e w3 ⟨rfl, hb3⟩
  have VA : Hid (Var2 w w3 w1.heap.size a0 a1) := (((Var2.made hb1.size _ _).below hb2).alloc _).below hb3
  have VB : Hid (Var2 w w3 w2.heap.size b0 b1) := (Var2.made (by have := hb1.size; have := hb2.size; simp at this; omega) _ _).below hb3
  have B3 : Hid (Below w.heap.size w w3) := after (boxed (after (boxed hb1 _) hb2) _) hb3
  have hs2 := hb2.size
  have hs3 := hb3.size
  simp at hs2 hs3
  have XI : Hid (XInv w w1.heap.size w2.heap.size w3.heap.size a0 a1 b0 b1 op (w3.alloc (.cells #[.int .i64 1, .int .i64 0] 24)) a0 b0 1 0) :=
    ⟨VA.out.alloc _, VB.out.alloc _, Var2.made B3.out.size _ _, by omega, by omega, boxed B3.out _, Or.inl ⟨fun v => done_none _ _ _ _ _ v, rfl, rfl⟩⟩
  obtain ⟨ca0, ca1⟩ : _ ∧ _ := ⟨(VA.out.alloc (.cells #[.int .i64 1, .int .i64 0] 24)).c0, (VA.out.alloc (.cells #[.int .i64 1, .int .i64 0] 24)).c1⟩
  clear hb1 hb2 hb3 VA VB B3 p1 p2 q1 q2 m1 m2 n1 n2
  go_wp2_with fail
  generalize w1.heap.size = A at *
  generalize w2.heap.size = B at *
  generalize w3.heap.size = H at *
  clear ca0 ca1
  go_loopw [14] (fun x wr => ∃ X lo hi : Int, x = .int .i64 X ∧ a0 ≤ X ∧ X ≤ a1 + 1 ∧ XInv w A B H a0 a1 b0 b1 op wr X b0 lo hi) (fun x _ => (a1 + 1 - intOf x).toNat)
  case atStart => exact ⟨a0, 1, 0, rfl, by omega, by have := A1.out; omega, XI.out⟩
  case round =>
    obtain ⟨X, lo, hi, rfl, hx1, hx2, hI⟩ := hrel
    obtain ⟨vA, vB, vH, dA, dB, BW, HH⟩ := hI
    have hca := vA.c1
    have hcb := vB.c0
    have VA := Lib.hid vA
    have VB := Lib.hid vB
    have VH := Lib.hid vH
    have HB := Lib.hid BW
    have HU := Lib.hid HH
    clear vA vB vH BW HH XI
    obtain ⟨r1, r2, r3, r4⟩ := A1.out
    obtain ⟨r5, r6, r7, r8⟩ := B1.out
    by_cases hlt : X ≤ a1
    · go_wp2_with fail
      obtain ⟨wo, rfl⟩ : ∃ wo : World, wo = wr := ⟨_, rfl⟩
      clear hca hcb
      go_loopw [15, 16, 17] (fun y _ _ wr => ∃ Y lo hi : Int, y = .int .i64 Y ∧ b0 ≤ Y ∧ Y ≤ b1 + 1 ∧ XInv w A B H a0 a1 b0 b1 op wr X Y lo hi) (fun y _ _ _ => (b1 + 1 - intOf y).toNat)
      case atStart => exact ⟨b0, lo, hi, rfl, by omega, by omega, ⟨VA.out, VB.out, VH.out, dA, dB, HB.out, HU.out⟩⟩
      case round =>
        clear VA VB VH HB HU
        obtain ⟨Y, lo, hi, rfl, hy1, hy2, hI⟩ := hrel
        obtain ⟨vA, vB, vH, _, _, BW, HH⟩ := hI
        have hcb := vB.c1
        have VA := Lib.hid vA
        have VB := Lib.hid vB
        have VH := Lib.hid vH
        have HB := Lib.hid BW
        have HU := Lib.hid HH
        clear vA vB vH BW HH
        by_cases hyt : Y ≤ b1
        · cases hop : opHas op Y
          · have hw0 : wrapV op X Y = 0 := by unfold wrapV; rw [hop]; rfl
            have HN : Hid (∀ v, Done op a0 a1 b0 b1 X Y v ↔ Done op a0 a1 b0 b1 X (Y + 1) v) := fun v => by
              rw [done_next hx1 hlt hy1 hyt, hop]
              simp
            go_wp2_with (first | (go_at_call 16; refine (wrap_any _ _ _ h0 _).mono ?_; rw [hop, hw0]; rintro e w5 ⟨rfl, hb5⟩))
            go_roundw
            case rel => exact ⟨Y + 1, lo, hi, rfl, by omega, by omega, ⟨VA.out.below hb5, VB.out.below hb5, VH.out.below hb5, dA, dB, after HB.out hb5, HU.out.congr HN.out⟩⟩
            case measure => simp [intOf]; omega
          · have hw0 : wrapV op X Y = opVal op X Y := by unfold wrapV; rw [hop]; rfl
            obtain ⟨lo', hi', hj, hh⟩ := HU.out.join (opVal op X Y)
            have HJ := Lib.hid hj
            have HH : Hid (Hull (Done op a0 a1 b0 b1 X (Y + 1)) lo' hi') := hh.congr fun v => by
              rw [done_next hx1 hlt hy1 hyt, hop]
              simp
            clear hj hh
            generalize opVal op X Y = z at hw0 HJ
            have HW := Lib.hid hw0
            clear hw0
            go_wp2_with (first | (go_at_call 16; refine (wrap_any _ _ _ h0 _).mono ?_; rw [hop, HW.out]; rintro e w5 ⟨rfl, hb5⟩))
            have VA5 := Lib.hid (VA.out.below hb5)
            have VB5 := Lib.hid (VB.out.below hb5)
            have VH5 := Lib.hid (VH.out.below hb5)
            have HB5 := Lib.hid (after HB.out hb5)
            have k0 := VH5.out.c0
            have k1 := VH5.out.c1
            clear hb5
            -- REGION 14
            refine wp_region_held_drew (S := fun _ => True) (by kernel_rfl) trivial (fun hHeld => ?_)
            have VHd := Lib.hid (VH5.out.below (Below.drew (Below.refl _ _)))
            have VAd := Lib.hid (VA5.out.below (Below.drew (Below.refl _ _)))
            have VBd := Lib.hid (VB5.out.below (Below.drew (Below.refl _ _)))
            refine wpAnyH_take (i := 1) (v := ?_) (by simp only [List.getElem?_toArray, List.getElem?_cons_zero, List.getElem?_cons_succ]; rfl) (by kernel_rfl) (by kernel_rfl) (by kernel_rfl) (by exact fun _ _ _ h => h) (Or.inl ⟨by rfl, ?_⟩) (by assumption) ?_
            rotate_left
            · (intro w' hSw; (try dsimp only at hSw); go_simp; try with_reducible rfl)
            try simp only [Act.put, List.setIfInBounds_toArray, List.set_cons_zero, List.set_cons_succ]
            refine wpAnyH_take (i := 2) (v := ?_) (by simp only [List.getElem?_toArray, List.getElem?_cons_zero, List.getElem?_cons_succ]; rfl) (by kernel_rfl) (by kernel_rfl) (by kernel_rfl) (by exact fun _ _ _ h => h) (Or.inl ⟨by rfl, ?_⟩) (by assumption) ?_
            rotate_left
            · (intro w' hSw; (try dsimp only at hSw); go_simp; try with_reducible rfl)
            try simp only [Act.put, List.setIfInBounds_toArray, List.set_cons_zero, List.set_cons_succ]
            refine wpAnyH_ready (rs := [0, 3]) (by kernel_rfl) (by simp) ?_
            refine AllReadyH.cons (by simp only [List.getElem?_toArray, List.getElem?_cons_zero, List.getElem?_cons_succ]; rfl) (fun K hK => ?_) (AllReadyH.cons (by simp only [List.getElem?_toArray, List.getElem?_cons_zero, List.getElem?_cons_succ]; rfl) (fun K hK => ?_) (AllReadyH.nil))
            · go_simp
              go_wp2_with fail
              refine hK.out _ _ trivial (fun hNext => ?_)
              clear hHeld hK K
              have hHeld := hNext
              clear hNext
              try simp only [Act.put, List.setIfInBounds_toArray, List.set_cons_zero, List.set_cons_succ]
              refine wpAnyH_ready (rs := [3]) (by kernel_rfl) (by simp) ?_
              refine AllReadyH.cons (by simp only [List.getElem?_toArray, List.getElem?_cons_zero, List.getElem?_cons_succ]; rfl) (fun K hK => ?_) (AllReadyH.nil)
              go_simp
              refine (ival_lit _ _ _).mono ?_; rintro e w6 ⟨rfl, hb6⟩
              have v5 := Lib.hid (VHd.out.below hb6)
              have VA5' := Lib.hid (VAd.out.below hb6)
              have VB5' := Lib.hid (VBd.out.below hb6)
              have LB : Hid (Below w.heap.size w w6) := after (Below.drew HB5.out) hb6
              go_wp2_with fail
              refine hK.out _ _ trivial (fun hNext => ?_)
              clear hHeld hK K
              have hHeld := hNext
              clear hNext
              try simp only [Act.put, List.setIfInBounds_toArray, List.set_cons_zero, List.set_cons_succ]
              refine wpAnyH_ready (rs := [4]) (by kernel_rfl) (by simp) ?_
              refine AllReadyH.cons (by simp only [List.getElem?_toArray, List.getElem?_cons_zero, List.getElem?_cons_succ]; rfl) (fun K hK => ?_) (AllReadyH.nil)
              go_simp
              refine (join_any _ _ _ _ _ (HL.out.after LB.out)).mono ?_; rw [HJ.out]; rintro e w7 ⟨rfl, hb7⟩
              have v6 := Lib.hid (v5.out.below hb7)
              have VA6 := Lib.hid (VA5'.out.below hb7)
              have VB6 := Lib.hid (VB5'.out.below hb7)
              have LB6 : Hid (Below w.heap.size w w7) := after LB.out hb7
              clear k0 k1
              have k0 := v6.out.c0
              have k1 := v6.out.c1
              have k2 := v6.out.f0
              have k3 := v6.out.f1
              go_wp2_with fail
              refine hK.out _ _ trivial (fun hNext => ?_)
              clear hHeld hK K
              have hHeld := hNext
              clear hNext
              try simp only [Act.put, List.setIfInBounds_toArray, List.set_cons_zero, List.set_cons_succ]
              refine wpAnyH_ready (rs := [5]) (by kernel_rfl) (by simp) ?_
              refine AllReadyH.cons (by simp only [List.getElem?_toArray, List.getElem?_cons_zero, List.getElem?_cons_succ]; rfl) (fun K hK => ?_) (AllReadyH.nil)
              go_simp
              go_wp2_with fail
              refine hK.out _ _ trivial (fun hNext => ?_)
              clear hHeld hK K
              have hHeld := hNext
              clear hNext
              try simp only [Act.put, List.setIfInBounds_toArray, List.set_cons_zero, List.set_cons_succ]
              refine wpAnyH_done (by kernel_rfl) ?_ _
              go_wp2_with fail
              go_roundw
              case rel => exact ⟨Y + 1, lo', hi', rfl, by omega, by omega, ⟨(VA6.out.far_store dA _ _), (VB6.out.far_store dB _ _), v6.out.store _ _, dA, dB, Below.setCell (Below.setCell LB6.out (by dsimp only; have := v6.out.far; omega) _) (by dsimp only; have := v6.out.far; omega) _, HH.out⟩⟩
              case measure => simp [intOf]; omega
            · go_simp
              refine (ival_lit _ _ _).mono ?_; rintro e w6 ⟨rfl, hb6⟩
              have v5 := Lib.hid (VHd.out.below hb6)
              have VA5' := Lib.hid (VAd.out.below hb6)
              have VB5' := Lib.hid (VBd.out.below hb6)
              have LB : Hid (Below w.heap.size w w6) := after (Below.drew HB5.out) hb6
              clear k0 k1
              have k0 := v5.out.c0
              have k1 := v5.out.c1
              go_wp2_with fail
              refine hK.out _ _ trivial (fun hNext => ?_)
              clear hHeld hK K
              have hHeld := hNext
              clear hNext
              try simp only [Act.put, List.setIfInBounds_toArray, List.set_cons_zero, List.set_cons_succ]
              refine wpAnyH_ready (rs := [0]) (by kernel_rfl) (by simp) ?_
              refine AllReadyH.cons (by simp only [List.getElem?_toArray, List.getElem?_cons_zero, List.getElem?_cons_succ]; rfl) (fun K hK => ?_) (AllReadyH.nil)
              go_simp
              go_wp2_with fail
              refine hK.out _ _ trivial (fun hNext => ?_)
              clear hHeld hK K
              have hHeld := hNext
              clear hNext
              try simp only [Act.put, List.setIfInBounds_toArray, List.set_cons_zero, List.set_cons_succ]
              refine wpAnyH_ready (rs := [4]) (by kernel_rfl) (by simp) ?_
              refine AllReadyH.cons (by simp only [List.getElem?_toArray, List.getElem?_cons_zero, List.getElem?_cons_succ]; rfl) (fun K hK => ?_) (AllReadyH.nil)
              go_simp
              refine (join_any _ _ _ _ _ (HL.out.after LB.out)).mono ?_; rw [HJ.out]; rintro e w7 ⟨rfl, hb7⟩
              have v6 := Lib.hid (v5.out.below hb7)
              have VA6 := Lib.hid (VA5'.out.below hb7)
              have VB6 := Lib.hid (VB5'.out.below hb7)
              have LB6 : Hid (Below w.heap.size w w7) := after LB.out hb7
              clear k0 k1
              have k0 := v6.out.c0
              have k1 := v6.out.c1
              have k2 := v6.out.f0
              have k3 := v6.out.f1
              go_wp2_with fail
              refine hK.out _ _ trivial (fun hNext => ?_)
              clear hHeld hK K
              have hHeld := hNext
              clear hNext
              try simp only [Act.put, List.setIfInBounds_toArray, List.set_cons_zero, List.set_cons_succ]
              refine wpAnyH_ready (rs := [5]) (by kernel_rfl) (by simp) ?_
              refine AllReadyH.cons (by simp only [List.getElem?_toArray, List.getElem?_cons_zero, List.getElem?_cons_succ]; rfl) (fun K hK => ?_) (AllReadyH.nil)
              go_simp
              go_wp2_with fail
              refine hK.out _ _ trivial (fun hNext => ?_)
              clear hHeld hK K
              have hHeld := hNext
              clear hNext
              try simp only [Act.put, List.setIfInBounds_toArray, List.set_cons_zero, List.set_cons_succ]
              refine wpAnyH_done (by kernel_rfl) ?_ _
              go_wp2_with fail
              go_roundw
              case rel => exact ⟨Y + 1, lo', hi', rfl, by omega, by omega, ⟨(VA6.out.far_store dA _ _), (VB6.out.far_store dB _ _), v6.out.store _ _, dA, dB, Below.setCell (Below.setCell LB6.out (by dsimp only; have := v6.out.far; omega) _) (by dsimp only; have := v6.out.far; omega) _, HH.out⟩⟩
              case measure => simp [intOf]; omega
            -- END 14
        · obtain rfl : Y = b1 + 1 := by omega
          go_wp2_with fail
          go_roundw
          case rel => exact ⟨X + 1, lo, hi, rfl, by omega, by omega, ⟨VA.out, VB.out, VH.out, dA, dB, HB.out, HU.out.congr fun v => done_row v⟩⟩
          case measure => simp [intOf]; omega
    · obtain rfl : X = a1 + 1 := by omega
      obtain ⟨lo', hi', hr, hh⟩ := range_hull h0 n5 n6 n13 ⟨r1, r3, r4⟩ ⟨r5, r7, r8⟩
      obtain ⟨rfl, rfl⟩ := HU.out.uniq hh
      have HR := Lib.hid hr
      have cA0 := VA.out.c0
      have cB1 := VB.out.c1
      have cH0 := VH.out.c0
      have cH1 := VH.out.c1
      have ib0 : I64 b0 := by unfold I64; omega
      have ib1 : I64 b1 := by unfold I64; omega
      clear hr hh
      go_upto_region 15 with fail
      -- REGION 15
      refine wp_region_held_drew (S := fun w' => w'.cell? ⟨A, 0, none⟩ = some (.int .i64 a0) ∧ w'.cell? ⟨A, 1, none⟩ = some (.int .i64 a1) ∧ w'.cell? ⟨B, 0, none⟩ = some (.int .i64 b0) ∧ w'.cell? ⟨B, 1, none⟩ = some (.int .i64 b1) ∧ w'.cell? ⟨H, 0, none⟩ = some (.int .i64 lo) ∧ w'.cell? ⟨H, 1, none⟩ = some (.int .i64 hi)) (by kernel_rfl) ⟨VA.out.c0, VA.out.c1, VB.out.c0, VB.out.c1, VH.out.c0, VH.out.c1⟩ (fun hHeld => ?_)
      refine wpAnyH_take (i := 0) (v := ?_) (by simp only [List.getElem?_toArray, List.getElem?_cons_zero, List.getElem?_cons_succ]; rfl) (by kernel_rfl) (by kernel_rfl) (by kernel_rfl) (by exact fun _ _ _ h => h) (Or.inl ⟨by rfl, ?_⟩) (by assumption) ?_
      rotate_left
      · (intro w' hSw; (try dsimp only at hSw); go_simp; try with_reducible rfl)
      try simp only [Act.put, List.setIfInBounds_toArray, List.set_cons_zero, List.set_cons_succ]
      refine wpAnyH_take (i := 1) (v := ?_) (by simp only [List.getElem?_toArray, List.getElem?_cons_zero, List.getElem?_cons_succ]; rfl) (by kernel_rfl) (by kernel_rfl) (by kernel_rfl) (by exact fun _ _ _ h => h) (Or.inl ⟨by rfl, ?_⟩) (by assumption) ?_
      rotate_left
      · (intro w' hSw; (try dsimp only at hSw); go_simp; try with_reducible rfl)
      try simp only [Act.put, List.setIfInBounds_toArray, List.set_cons_zero, List.set_cons_succ]
      refine wpAnyH_take (i := 2) (v := ?_) (by simp only [List.getElem?_toArray, List.getElem?_cons_zero, List.getElem?_cons_succ]; rfl) (by kernel_rfl) (by kernel_rfl) (by kernel_rfl) (by exact fun _ _ _ h => h) (Or.inl ⟨by rfl, ?_⟩) (by assumption) ?_
      rotate_left
      · (intro w' hSw; (try dsimp only at hSw); go_simp; try with_reducible rfl)
      try simp only [Act.put, List.setIfInBounds_toArray, List.set_cons_zero, List.set_cons_succ]
      refine wpAnyH_take (i := 4) (v := ?_) (by simp only [List.getElem?_toArray, List.getElem?_cons_zero, List.getElem?_cons_succ]; rfl) (by kernel_rfl) (by kernel_rfl) (by kernel_rfl) (by exact fun _ _ _ h => h) (Or.inl ⟨by rfl, ?_⟩) (by assumption) ?_
      rotate_left
      · (intro w' hSw; (try dsimp only at hSw); go_simp; try with_reducible rfl)
      try simp only [Act.put, List.setIfInBounds_toArray, List.set_cons_zero, List.set_cons_succ]
      refine wpAnyH_ready (rs := [3]) (by kernel_rfl) (by simp) ?_
      refine AllReadyH.cons (by simp only [List.getElem?_toArray, List.getElem?_cons_zero, List.getElem?_cons_succ]; rfl) (fun K hK => ?_) (AllReadyH.nil)
      go_simp
      refine (range_any _ _ _ _ _ _ (HL.out.after (Below.drew HB.out)) h0 ib0 ib1).mono ?_; rw [HR.out]; rintro e w6 ⟨rfl, hb⟩
      have LB : Hid (Below w.heap.size w w6) := after (Below.drew HB.out) hb
      go_wp2_with fail
      refine hK.out _ _ ⟨keepC hb hHeld.1, keepC hb hHeld.2.1, keepC hb hHeld.2.2.1, keepC hb hHeld.2.2.2.1, keepC hb hHeld.2.2.2.2.1, keepC hb hHeld.2.2.2.2.2⟩ (fun hNext => ?_)
      clear hHeld hK K
      have hHeld := hNext
      clear hNext
      try simp only [Act.put, List.setIfInBounds_toArray, List.set_cons_zero, List.set_cons_succ]
      refine wpAnyH_take (i := 5) (v := ?_) (by simp only [List.getElem?_toArray, List.getElem?_cons_zero, List.getElem?_cons_succ]; rfl) (by kernel_rfl) (by kernel_rfl) (by kernel_rfl) (by exact fun _ _ _ h => h) (Or.inl ⟨by rfl, ?_⟩) (by assumption) ?_
      rotate_left
      · (intro w' hSw; (try dsimp only at hSw); go_simp; try with_reducible rfl)
      try simp only [Act.put, List.setIfInBounds_toArray, List.set_cons_zero, List.set_cons_succ]
      refine wpAnyH_take (i := 6) (v := ?_) (by simp only [List.getElem?_toArray, List.getElem?_cons_zero, List.getElem?_cons_succ]; rfl) (by kernel_rfl) (by kernel_rfl) (by kernel_rfl) (by exact fun _ _ _ h => h) (Or.inl ⟨by rfl, ?_⟩) (by assumption) ?_
      rotate_left
      · (intro w' hSw; (try dsimp only at hSw); go_simp; try with_reducible rfl)
      try simp only [Act.put, List.setIfInBounds_toArray, List.set_cons_zero, List.set_cons_succ]
      refine wpAnyH_ready (rs := [7]) (by kernel_rfl) (by simp) ?_
      refine AllReadyH.cons (by simp only [List.getElem?_toArray, List.getElem?_cons_zero, List.getElem?_cons_succ]; rfl) (fun K hK => ?_) (AllReadyH.nil)
      go_simp
      refine (head_true _ (HL.out.after LB.out)).mono ?_; rintro e w7 ⟨rfl, hb⟩
      have LB7 : Hid (Below w.heap.size w w7) := after LB.out hb
      go_wp2_with fail
      refine hK.out _ _ ⟨keepC hb hHeld.1, keepC hb hHeld.2.1, keepC hb hHeld.2.2.1, keepC hb hHeld.2.2.2.1, keepC hb hHeld.2.2.2.2.1, keepC hb hHeld.2.2.2.2.2⟩ (fun hNext => ?_)
      clear hHeld hK K
      have hHeld := hNext
      clear hNext
      try simp only [Act.put, List.setIfInBounds_toArray, List.set_cons_zero, List.set_cons_succ]
      refine wpAnyH_take (i := 8) (v := ?_) (by simp only [List.getElem?_toArray, List.getElem?_cons_zero, List.getElem?_cons_succ]; rfl) (by kernel_rfl) (by kernel_rfl) (by kernel_rfl) (by exact fun _ _ _ h => h) (Or.inl ⟨by rfl, ?_⟩) (by assumption) ?_
      rotate_left
      · (intro w' hSw; (try dsimp only at hSw); go_simp; try with_reducible rfl)
      try simp only [Act.put, List.setIfInBounds_toArray, List.set_cons_zero, List.set_cons_succ]
      refine wpAnyH_take (i := 9) (v := ?_) (by simp only [List.getElem?_toArray, List.getElem?_cons_zero, List.getElem?_cons_succ]; rfl) (by kernel_rfl) (by kernel_rfl) (by kernel_rfl) (by exact fun _ _ _ h => h) (Or.inl ⟨by rfl, ?_⟩) (by assumption) ?_
      rotate_left
      · (intro w' hSw; (try dsimp only at hSw); go_simp; try with_reducible rfl)
      try simp only [Act.put, List.setIfInBounds_toArray, List.set_cons_zero, List.set_cons_succ]
      refine wpAnyH_done (by kernel_rfl) ?_ _
      go_wp2
      go_returns
      exact ⟨rfl, LB7.out⟩
      -- END 15

theorem exact_skip (op p q m n : Int) (w : World) (L : Laid w) (hop : op = 5 ∨ op = 6 ∨ op = 13 ∨ op = 14 ∨ op = 15) (hp : -128 ≤ p ∧ p ≤ 127) (hq : -128 ≤ q ∧ q ≤ 127) (hm : -128 ≤ m ∧ m ≤ 127) (hn : -128 ≤ n ∧ n ≤ 127) :
    Calls Tryd.prog 6 #[.int .u8 op, .int .i8 p, .int .i8 q, .int .i8 m, .int .i8 n] w (Gives w (.bool true)) := by
  obtain ⟨p1, p2⟩ := mod21 p
  obtain ⟨q1, q2⟩ := mod21 q
  obtain ⟨m1, m2⟩ := and7_of hm.1 hm.2
  obtain ⟨n1, n2⟩ := and7_of hn.1 hn.2
  obtain ⟨p3, p4⟩ := hp
  obtain ⟨q3, q4⟩ := hq
  obtain ⟨m3, m4⟩ := hm
  obtain ⟨n3, n4⟩ := hn
  have HL := Lib.hid L
  clear L
  rcases hop with rfl | rfl | rfl | rfl | rfl
  all_goals
    go_enter Tryd.func6, Tryd.ntmps6
    go_wp2_with fail
    refine (ival_lit _ _ _).mono ?_
    rintro e w1 ⟨rfl, hb1⟩
    go_wp2_with fail
    refine (ival_lit _ _ _).mono ?_
    rintro e w2 ⟨rfl, hb2⟩
    have B2 : Hid (Below w.heap.size w w2) := after (boxed hb1 _) hb2
    clear hb1 hb2
    go_wp2_with fail
    refine (head_true _ (HL.out.after (boxed B2.out _))).mono ?_
    rintro e w3 ⟨rfl, hb3⟩
    go_wp2_with fail
    go_returns
    exact ⟨rfl, after (boxed B2.out _) hb3⟩

theorem law_numExact (op p q m n : Int) (w : World) (L : Laid w) (ho : 0 ≤ op ∧ op ≤ 255) (hp : -128 ≤ p ∧ p ≤ 127) (hq : -128 ≤ q ∧ q ≤ 127) (hm : -128 ≤ m ∧ m ≤ 127) (hn : -128 ≤ n ∧ n ≤ 127) :
    Calls Tryd.prog 6 #[.int .u8 op, .int .i8 p, .int .i8 q, .int .i8 m, .int .i8 n] w (Gives w (.bool true)) := by
  by_cases h : op = 5 ∨ op = 6 ∨ op = 13 ∨ op = 14 ∨ op = 15
  · exact exact_skip op p q m n w L h hp hq hm hn
  · exact exact_main op p q m n w L ho.1 (by omega) (by omega) (by omega) hp hq hm hn

end Go.Proofs.YtdbfaekdkjclcaaDoor
