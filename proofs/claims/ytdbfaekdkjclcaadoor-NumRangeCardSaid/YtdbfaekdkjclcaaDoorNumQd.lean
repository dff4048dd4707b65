
/-
  THE REFERENCE's bits: operators of truth values.
-/
import Derived.Test.YtdbfaekdkjclcaaDoorNumQa
import Derived.Test.YtdbfaekdkjclcaaDoorNumXw
namespace Go.Proofs.YtdbfaekdkjclcaaDoor
open Go Go.RowKit

theorem rfull_lit (w : World) : Calls Tryd.prog 37 #[] w (Gives w (.agg #[.int .i64 (-9223372036854775808), .int .i64 9223372036854775807])) := rfull_any w
theorem rnone_lit (w : World) : Calls Tryd.prog 28 #[] w (Gives w (.agg #[.int .i64 1, .int .i64 0])) := rnone_any w

set_option maxRecDepth 100000 in
set_option maxHeartbeats 4000000 in
theorem rbits_full (op a0 a1 b0 b1 : Int) (h13 : 13 ≤ op) (h15 : op ≤ 15) (hab : ¬ a1 < a0) (hcd : ¬ b1 < b0) (hn : ¬ (0 ≤ a0 ∧ a1 ≤ 1 ∧ 0 ≤ b0 ∧ b1 ≤ 1)) (w : World) :
    Calls Tryd.prog 36 #[.int .u8 op, .agg #[.int .i64 a0, .int .i64 a1], .agg #[.int .i64 b0, .int .i64 b1]] w (Gives w (rangeV op a0 a1 b0 b1)) := by
  have e : rangeV op a0 a1 b0 b1 = .agg #[.int .i64 (-9223372036854775808), .int .i64 9223372036854775807] := by
    unfold rangeV
    rw [if_neg (by omega), if_neg (by omega), if_neg (by omega), if_neg (by omega), if_pos ⟨⟨h13, h15⟩, fun h => hn (by
      have k1 := (lies01 hab).1 h.1
      have k2 := (lies01 hcd).1 h.2
      omega)⟩]
    rfl
  rw [e]
  clear e
  have HN := Lib.hid hn
  clear hn
  by_cases c1 : a0 < 0
  all_goals by_cases c2 : 1 < a1
  all_goals by_cases c3 : b0 < 0
  all_goals by_cases c4 : 1 < b1
  all_goals try (exfalso; have := HN.out; omega)
  all_goals
    go_enter Tryd.func36, Tryd.ntmps36
    go_wp2_with fail
    refine (rfull_lit _).mono ?_
    rintro e w1 ⟨rfl, hb⟩
    have c0 := keepC hb (b := w.heap.size + 1 + 1) (o := 0) (v := .int .i64 0) (by go_cell)
    have c1' := keepC hb (b := w.heap.size + 1 + 1) (o := 1) (v := .int .i64 0) (by go_cell)
    have f0 := keepF hb (b := w.heap.size + 1 + 1) (o := 0) (v := .int .i64 0) (by go_cell) (by go_cell)
    have f1 := keepF hb (b := w.heap.size + 1 + 1) (o := 1) (v := .int .i64 0) (by go_cell) (by go_cell)
    have hz : w.heap.size + 1 + 1 < w1.heap.size := by have := hb.size; simp at this; omega
    go_wp2_with fail
    refine bodyPost_ret (v := .agg #[.int .i64 (-9223372036854775808), .int .i64 9223372036854775807]) (by simp [results, Tryd.results36, go_sem, *]) rfl ⟨rfl, ?_⟩
    refine Below.setCell (Below.setCell (after ?_ hb) ?_ _) ?_ _
    · (repeat' (first | (with_reducible exact Below.refl _ _) | (with_reducible assumption) | (with_reducible refine boxed ?_ _) | (with_reducible refine Below.drew ?_) | (with_reducible refine after ?_ (by assumption))))
    · dsimp only; omega
    · dsimp only; omega

set_option maxRecDepth 100000 in
set_option maxHeartbeats 4000000 in
theorem rbits_main (op a0 a1 b0 b1 : Int) (h13 : 13 ≤ op) (h15 : op ≤ 15) (ha : 0 ≤ a0 ∧ a0 ≤ a1 ∧ a1 ≤ 1) (hb : 0 ≤ b0 ∧ b0 ≤ b1 ∧ b1 ≤ 1) (w : World) :
    Calls Tryd.prog 36 #[.int .u8 op, .agg #[.int .i64 a0, .int .i64 a1], .agg #[.int .i64 b0, .int .i64 b1]] w (Gives w (rangeV op a0 a1 b0 b1)) := by
  obtain ⟨lo', hi', hr, hh⟩ := bits_hull h13 h15 ha hb
  rw [hr]
  have HH := Lib.hid hh
  clear hr hh
  have A1 := Lib.hid ha
  have B1 := Lib.hid hb
  obtain ⟨a2, a3, a4⟩ := ha
  obtain ⟨b2, b3, b4⟩ := hb
  go_enter Tryd.func36, Tryd.ntmps36
  go_wp2_with fail
  refine (rnone_lit _).mono ?_
  rintro e w1 ⟨rfl, hb1⟩
  have VA : Hid (Var2 w w1 w.heap.size a0 a1) := (((Var2.made (Nat.le_refl _) _ _).alloc _).alloc _).below hb1
  have VB : Hid (Var2 w w1 (w.heap.size + 1) b0 b1) := ((by simpa using Var2.made (w := w) (W := w.alloc (.cells #[.int .i64 a0, .int .i64 a1] 24)) (by simp) b0 b1 : Var2 w _ (w.heap.size + 1) b0 b1).alloc _).below hb1
  have VR : Hid (Var2 w w1 (w.heap.size + 1 + 1) 0 0) := (by simpa using Var2.made (w := w) (W := (w.alloc (.cells #[.int .i64 a0, .int .i64 a1] 24)).alloc (.cells #[.int .i64 b0, .int .i64 b1] 24)) (by simp; omega) 0 0 : Var2 w _ (w.heap.size + 1 + 1) 0 0).below hb1
  have BW : Hid (Below w.heap.size w w1) := after (by (repeat' (first | (with_reducible exact Below.refl _ _) | (with_reducible assumption) | (with_reducible refine boxed ?_ _) | (with_reducible refine Below.drew ?_) | (with_reducible refine after ?_ (by assumption))))) hb1
  have hs := hb1.size
  simp at hs
  have XI : Hid (XInv w w.heap.size (w.heap.size + 1) w1.heap.size a0 a1 b0 b1 op (w1.alloc (.cells #[.int .i64 1, .int .i64 0] 24)) a0 b0 1 0) :=
    ⟨VA.out.alloc _, VB.out.alloc _, Var2.made BW.out.size _ _, by omega, by omega, boxed BW.out _, Or.inl ⟨fun v => done_none _ _ _ _ _ v, rfl, rfl⟩⟩
  have VR2 : Hid (Var2 w (w1.alloc (.cells #[.int .i64 1, .int .i64 0] 24)) (w.heap.size + 1 + 1) 0 0) := VR.out.alloc _
  obtain ⟨ca0, ca1⟩ : _ ∧ _ := ⟨(VA.out.alloc (.cells #[.int .i64 1, .int .i64 0] 24)).c0, (VA.out.alloc (.cells #[.int .i64 1, .int .i64 0] 24)).c1⟩
  clear hb1 VA VB VR BW
  go_wp2_with fail
  generalize w1.heap.size = H at *
  clear ca0 ca1
  go_loopw [8] (fun x wr => ∃ X lo hi : Int, x = .int .i64 X ∧ a0 ≤ X ∧ X ≤ a1 + 1 ∧ XInv w w.heap.size (w.heap.size + 1) H a0 a1 b0 b1 op wr X b0 lo hi ∧ Var2 w wr (w.heap.size + 1 + 1) 0 0) (fun x _ => (a1 + 1 - intOf x).toNat)
  case atStart => exact ⟨a0, 1, 0, rfl, by omega, by omega, XI.out, VR2.out⟩
  case round =>
    clear XI VR2
    obtain ⟨X, lo, hi, rfl, hx1, hx2, hI, hR⟩ := hrel
    obtain ⟨vA, vB, vH, dA, dB, BW, hU⟩ := hI
    have hca := vA.c1
    have hcb := vB.c0
    have VA := Lib.hid vA
    have VB := Lib.hid vB
    have VH := Lib.hid vH
    have VR := Lib.hid hR
    have HB := Lib.hid BW
    have HU := Lib.hid hU
    clear vA vB vH BW hU hR
    by_cases hlt : X ≤ a1
    · go_wp2_with fail
      obtain ⟨wo, rfl⟩ : ∃ wo : World, wo = wr := ⟨_, rfl⟩
      clear hca hcb
      go_loopw [9, 10, 11] (fun y _ _ wr => ∃ Y lo hi : Int, y = .int .i64 Y ∧ b0 ≤ Y ∧ Y ≤ b1 + 1 ∧ XInv w w.heap.size (w.heap.size + 1) H a0 a1 b0 b1 op wr X Y lo hi ∧ Var2 w wr (w.heap.size + 1 + 1) 0 0) (fun y _ _ _ => (b1 + 1 - intOf y).toNat)
      case atStart => exact ⟨b0, lo, hi, rfl, by omega, by omega, ⟨VA.out, VB.out, VH.out, dA, dB, HB.out, HU.out⟩, VR.out⟩
      case round =>
        clear VA VB VH HB HU VR
        obtain ⟨Y, lo, hi, rfl, hy1, hy2, hI, hR⟩ := hrel
        obtain ⟨vA, vB, vH, _, _, BW, hU⟩ := hI
        have hcb := vB.c1
        have VA := Lib.hid vA
        have VB := Lib.hid vB
        have VH := Lib.hid vH
        have VR := Lib.hid hR
        have HB := Lib.hid BW
        have HU := Lib.hid hU
        clear vA vB vH BW hU hR
        by_cases hyt : Y ≤ b1
        · have hop : opHas op Y = true := decide_eq_true ⟨by omega, by omega, by omega⟩
          have hw0 : wrapV op X Y = opVal op X Y := by unfold wrapV; rw [hop]; rfl
          obtain ⟨lo2, hi2, hj, hh⟩ := HU.out.join (opVal op X Y)
          have HJ := Lib.hid hj
          have HH2 : Hid (Hull (Done op a0 a1 b0 b1 X (Y + 1)) lo2 hi2) := hh.congr fun v => by
            rw [done_next hx1 hlt hy1 hyt, hop]
            simp
          clear hj hh
          generalize opVal op X Y = z at hw0 HJ
          have HW := Lib.hid hw0
          clear hw0
          have h0 : 0 ≤ op := by omega
          go_wp2_with (first | (go_at_call 55; refine (rwrap_any _ _ _ h0 _).mono ?_; rw [hop, HW.out]; rintro e w5 ⟨rfl, hb5⟩; have k0 := (VH.out.below hb5).c0; have k1 := (VH.out.below hb5).c1))
          refine (rjoin_any _ _ _ _ _).mono ?_
          rw [HJ.out]
          rintro e w6 ⟨rfl, hb6⟩
          have VH6 := Lib.hid ((VH.out.below hb5).below hb6)
          have VA6 := Lib.hid ((VA.out.below hb5).below hb6)
          have VB6 := Lib.hid ((VB.out.below hb5).below hb6)
          have VR6 := Lib.hid ((VR.out.below hb5).below hb6)
          have LB6 : Hid (Below w.heap.size w w6) := after (after HB.out hb5) hb6
          have g0 := VH6.out.c0
          have g1 := VH6.out.c1
          have g2 := VH6.out.f0
          have g3 := VH6.out.f1
          clear k0 k1 hb5 hb6
          go_wp2_with fail
          go_roundw
          case rel =>
            have hs6 := VR6.out.lt
            exact ⟨Y + 1, lo2, hi2, rfl, by omega, by omega, ⟨VA6.out.far_store dA _ _, VB6.out.far_store dB _ _, VH6.out.store _ _, dA, dB, Below.setCell (Below.setCell LB6.out (by dsimp only; have := VH6.out.far; omega) _) (by dsimp only; have := VH6.out.far; omega) _, HH2.out⟩, VR6.out.far_store (by omega) _ _⟩
          case measure => simp [intOf]; omega
        · obtain rfl : Y = b1 + 1 := by omega
          go_wp2_with fail
          go_roundw
          case rel => exact ⟨X + 1, lo, hi, rfl, by omega, by omega, ⟨VA.out, VB.out, VH.out, dA, dB, HB.out, HU.out.congr fun v => done_row v⟩, VR.out⟩
          case measure => simp [intOf]; omega
    · obtain rfl : X = a1 + 1 := by omega
      obtain ⟨rfl, rfl⟩ := HU.out.uniq HH.out
      have cH0 := VH.out.c0
      have cH1 := VH.out.c1
      have cR0 := VR.out.c0
      have cR1 := VR.out.c1
      have cR2 := VR.out.f0
      have cR3 := VR.out.f1
      go_wp2_with fail
      refine bodyPost_ret (v := .agg #[.int .i64 lo, .int .i64 hi]) (by simp [results, Tryd.results36, go_sem, *]) rfl ⟨rfl, ?_⟩
      exact Below.setCell (Below.setCell HB.out (by dsimp only; omega) _) (by dsimp only; omega) _

theorem rbits_any (op a0 a1 b0 b1 : Int) (h13 : 13 ≤ op) (h15 : op ≤ 15) (hab : ¬ a1 < a0) (hcd : ¬ b1 < b0) (w : World) :
    Calls Tryd.prog 36 #[.int .u8 op, .agg #[.int .i64 a0, .int .i64 a1], .agg #[.int .i64 b0, .int .i64 b1]] w (Gives w (rangeV op a0 a1 b0 b1)) := by
  by_cases h : 0 ≤ a0 ∧ a1 ≤ 1 ∧ 0 ≤ b0 ∧ b1 ≤ 1
  · exact rbits_main op a0 a1 b0 b1 h13 h15 (by omega) (by omega) w
  · exact rbits_full op a0 a1 b0 b1 h13 h15 hab hcd h w

end Go.Proofs.YtdbfaekdkjclcaaDoor
