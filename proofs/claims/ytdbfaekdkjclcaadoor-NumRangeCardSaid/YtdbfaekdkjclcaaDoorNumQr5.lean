
/-
  THE REFERENCE's Range, operator by operator.
-/
import Derived.Test.YtdbfaekdkjclcaaDoorNumQr
import Derived.Test.YtdbfaekdkjclcaaDoorNumQb
import Derived.Test.YtdbfaekdkjclcaaDoorNumQc
import Derived.Test.YtdbfaekdkjclcaaDoorNumTd
import Derived.Deep.RegionHeld3
namespace Go.Proofs.YtdbfaekdkjclcaaDoor
open Go Go.RowKit

theorem heap_new (w : World) (o : Obj) : (w.alloc o).heap[w.heap.size]? = some o := by
  have e : (w.alloc o).heap = w.heap.push o := rfl
  rw [e]; simp
theorem FBox.below3 {w : World} {a b c d : Int} {W w1 : World} (h : FBox w a b c d W) (hb : Below (w.heap.size + 1 + 1 + 1) W w1) : FBox w a b c d w1 :=
  ⟨(hb.cell (by show w.heap.size < _; omega)).trans h.a0, (hb.cell (by show w.heap.size < _; omega)).trans h.a1, (hb.cell (by show w.heap.size + 1 < _; omega)).trans h.b0, (hb.cell (by show w.heap.size + 1 < _; omega)).trans h.b1,
    ⟨h.vR.far, by have := h.vR.lt; have := hb.size; omega, (hb.cell (by show w.heap.size + 1 + 1 < _; omega)).trans h.vR.c0, (hb.cell (by show w.heap.size + 1 + 1 < _; omega)).trans h.vR.c1, (hb.frozen (by show w.heap.size + 1 + 1 < _; omega)).trans h.vR.f0, (hb.frozen (by show w.heap.size + 1 + 1 < _; omega)).trans h.vR.f1⟩,
    h.bel.trans (hb.mono (by omega))⟩

set_option maxRecDepth 100000 in
set_option maxHeartbeats 8000000 in
theorem rrange_17_least (a b c d : Int) (hab : ¬ b < a) (hm : (a == -9223372036854775808) = true) (w : World) : Calls Tryd.prog 8 #[.int .u8 17, .agg #[.int .i64 a, .int .i64 b], .agg #[.int .i64 c, .int .i64 d]] w (Gives w (.agg #[.int .i64 (-9223372036854775808), .int .i64 9223372036854775807])) := by
  have ea : decide (b < a) = false := by simpa using hab
  have eu : unaryB 17 = true := rfl
  clear hab
  cases z1 : (c == 0)
  all_goals cases z2 : (d == 0)
  all_goals
   have R0 := Lib.hid (FBox.start w a b c d)
   go_enter Tryd.func8, Tryd.ntmps8
   go_wp2_with fail
   refine (rempty_any _ _ _).mono ?_; rw [ea]; rintro e w1 ⟨rfl, hb⟩
   have R1 := Lib.hid (R0.out.below hb)
   clear hb
   obtain ⟨k0, k1, k2, k3, _, _⟩ := R1.out
   go_wp2_with fail
   refine (runary_any _ _).mono ?_; rw [eu]; rintro e w2 ⟨rfl, hb⟩
   have R2 := Lib.hid (R1.out.below hb)
   clear hb k0 k1 k2 k3
   obtain ⟨k0, k1, k2, k3, _, _⟩ := R2.out
   have R3 := R2
   clear R0 R1 R2
   go_wp2_with fail
   refine (rfull_lit _).mono ?_; rintro e w4 ⟨rfl, hb⟩
   have R9 := Lib.hid (R3.out.below hb)
   clear hb k0 k1 k2 k3
   have g0 := R9.out.vR.c0
   have g1 := R9.out.vR.c1
   have g2 := R9.out.vR.f0
   have g3 := R9.out.vR.f1
   go_wp2_with fail
   refine bodyPost_ret (v := .agg #[.int .i64 (-9223372036854775808), .int .i64 9223372036854775807]) (by simp [results, Tryd.results8, go_sem, *]) rfl ⟨rfl, R9.out.done _ _⟩

set_option maxRecDepth 100000 in
set_option maxHeartbeats 8000000 in
theorem rrange_17 (a b c d : Int) (hab : ¬ b < a) (ia : I64 a) (ib : I64 b) (hm : ¬ a = -9223372036854775808) (w : World) : Calls Tryd.prog 8 #[.int .u8 17, .agg #[.int .i64 a, .int .i64 b], .agg #[.int .i64 c, .int .i64 d]] w (Gives w (hullV 1 (absL a b) [0])) := by
  have HB : Hid ((-9223372036854775808 < a ∧ a ≤ 9223372036854775807) ∧ -9223372036854775808 < b ∧ b ≤ 9223372036854775807) := ⟨⟨by have := ia.1; omega, ia.2⟩, by have := ia.1; omega, ib.2⟩
  obtain ⟨⟨a1, a2⟩, b1, b2⟩ := HB.out
  have h0 : (a == -9223372036854775808) = false := beq_eq_false_iff_ne.2 hm
  clear hm
  have ea : decide (b < a) = false := by simpa using hab
  have eu : unaryB 17 = true := rfl
  clear hab
  obtain ⟨u, v, huv⟩ := hull_iv 1 (absL a b) [0]
  have HU := Lib.hid huv
  rw [huv]
  clear huv ia ib
  obtain ⟨x, hx⟩ : ∃ x, max a (-a) = x := ⟨_, rfl⟩
  obtain ⟨y, hy⟩ : ∃ y, max b (-b) = y := ⟨_, rfl⟩
  have HX := Lib.hid hx
  have HY := Lib.hid hy
  obtain ⟨i0, hi, hz0, hz1, hz2⟩ := info_parts info64
  cases hh : hasB a b 0
  · have HL := Lib.hid (show absL a b = [x, y] by unfold absL; rw [hh, hx, hy]; rfl)
    clear hx hy
    cases z1 : (c == 0)
    all_goals cases z2 : (d == 0)
    all_goals
     have R0 := Lib.hid (FBox.start w a b c d)
     go_enter Tryd.func8, Tryd.ntmps8
     go_wp2_with fail
     refine (rempty_any _ _ _).mono ?_; rw [ea]; rintro e w1 ⟨rfl, hb⟩
     have R1 := Lib.hid (R0.out.below hb)
     clear hb
     obtain ⟨k0, k1, k2, k3, _, _⟩ := R1.out
     go_wp2_with fail
     refine (runary_any _ _).mono ?_; rw [eu]; rintro e w2 ⟨rfl, hb⟩
     have R2 := Lib.hid (R1.out.below hb)
     clear hb k0 k1 k2 k3
     obtain ⟨k0, k1, k2, k3, _, _⟩ := R2.out
     have R3 := R2
     clear R0 R1 R2
     obtain ⟨q00, q01, _, _, _, _⟩ := R3.out.alloc (.cells #[.int .i64 a, .int .i64 b] 2 (0, 0))
     obtain ⟨q10, q11, _, _, _, _⟩ := R3.out.alloc (.cells #[.int .i64 a, .int .i64 (-b)] 2 (0, 0))
     obtain ⟨q20, q21, _, _, _, _⟩ := R3.out.alloc (.cells #[.int .i64 (-a), .int .i64 b] 2 (0, 0))
     obtain ⟨q30, q31, _, _, _, _⟩ := R3.out.alloc (.cells #[.int .i64 (-a), .int .i64 (-b)] 2 (0, 0))
     go_wp2_with fail
     all_goals
      refine (rhas_any _ _ _ _).mono ?_; rw [hh]; rintro e w4 ⟨rfl, hb⟩
      have R4 := Lib.hid ((R3.out.alloc _).below hb)
      have I4 : Hid (Ints w4 w2.heap.size 2 [x, y]) := Lib.hid (Ints.below (ints_two (by first | (rw [show x = a by have := HX.out; omega]; go_cell) | (rw [show x = -a by have := HX.out; omega]; go_cell)) (by first | (rw [show y = b by have := HY.out; omega]; go_cell) | (rw [show y = -b by have := HY.out; omega]; go_cell))) hb (by simp))
      clear hb k0 k1 k2 k3
      go_wp2_with fail
      refine (rcorners_any 1 (by omega) (by omega) _ _ _ _ [x, y] [0] _ (I4.out.below ((Below.refl _ _).alloc (Nat.le_refl _) _) (I4.out.lt (by omega))) (ints_one (by go_cell)) (fun z hz => by have := HB.out; have := HX.out; have := HY.out; unfold I64; rcases List.mem_cons.1 hz with rfl | hz; omega; rcases List.mem_cons.1 hz with rfl | hz; omega; cases hz) (fun z hz => ⟨(by rcases List.mem_cons.1 hz with rfl | hz; (unfold I64; omega); cases hz), fun h => by cases h⟩) (by simp) (by simp) (by simp) (by simp)).mono ?_; rw [← HL.out, HU.out]; rintro e w5 ⟨rfl, hb⟩
      have R9 := Lib.hid ((R4.out.alloc _).below hb)
      clear hb
      have g0 := R9.out.vR.c0
      have g1 := R9.out.vR.c1
      have g2 := R9.out.vR.f0
      have g3 := R9.out.vR.f1
      go_wp2_with fail
      refine bodyPost_ret (v := .agg #[.int .i64 u, .int .i64 v]) (by simp [results, Tryd.results8, go_sem, *]) rfl ⟨rfl, R9.out.done _ _⟩
  · have HL := Lib.hid (show absL a b = [x, y, 0] by unfold absL; rw [hh, hx, hy]; rfl)
    clear hx hy
    cases z1 : (c == 0)
    all_goals cases z2 : (d == 0)
    all_goals
     have R0 := Lib.hid (FBox.start w a b c d)
     go_enter Tryd.func8, Tryd.ntmps8
     go_wp2_with fail
     refine (rempty_any _ _ _).mono ?_; rw [ea]; rintro e w1 ⟨rfl, hb⟩
     have R1 := Lib.hid (R0.out.below hb)
     clear hb
     obtain ⟨k0, k1, k2, k3, _, _⟩ := R1.out
     go_wp2_with fail
     refine (runary_any _ _).mono ?_; rw [eu]; rintro e w2 ⟨rfl, hb⟩
     have R2 := Lib.hid (R1.out.below hb)
     clear hb k0 k1 k2 k3
     obtain ⟨k0, k1, k2, k3, _, _⟩ := R2.out
     have R3 := R2
     clear R0 R1 R2
     obtain ⟨q00, q01, _, _, _, _⟩ := R3.out.alloc (.cells #[.int .i64 a, .int .i64 b] 2 (0, 0))
     obtain ⟨q10, q11, _, _, _, _⟩ := R3.out.alloc (.cells #[.int .i64 a, .int .i64 (-b)] 2 (0, 0))
     obtain ⟨q20, q21, _, _, _, _⟩ := R3.out.alloc (.cells #[.int .i64 (-a), .int .i64 b] 2 (0, 0))
     obtain ⟨q30, q31, _, _, _, _⟩ := R3.out.alloc (.cells #[.int .i64 (-a), .int .i64 (-b)] 2 (0, 0))
     go_wp2_with fail
     all_goals
      refine (rhas_any _ _ _ _).mono ?_; rw [hh]; rintro e w4 ⟨rfl, hb⟩
      have R4 := Lib.hid ((R3.out.alloc _).below hb)
      have HO : Hid (w4.ownsRow (w.heap.size + 1 + 1 + 1) 2 1 (.slice (some ⟨w2.heap.size, 0, none⟩) 2 2) 2 [.int .i64 x, .int .i64 y]) := Lib.hid (ownsRow_below (own_two (by first | (rw [show x = a by have := HX.out; omega, show y = b by have := HY.out; omega]; exact heap_new _ _) | (rw [show x = a by have := HX.out; omega, show y = -b by have := HY.out; omega]; exact heap_new _ _) | (rw [show x = -a by have := HX.out; omega, show y = b by have := HY.out; omega]; exact heap_new _ _) | (rw [show x = -a by have := HX.out; omega, show y = -b by have := HY.out; omega]; exact heap_new _ _)) (by have := R3.out.vR.lt; omega)) hb)
      have HS : Hid (w.heap.size + 1 + 1 < w2.heap.size ∧ w2.heap.size < w4.heap.size) := Lib.hid ⟨R3.out.vR.lt, by have := hb.size; simp at this; omega⟩
      have hs4 := HS.out
      clear hb k0 k1 k2 k3
      go_wp2_with (at_builtin; refine wpList_append_own _ rfl _ _ 45 rfl (w.heap.size + 1 + 1 + 1) 2 i0 (.int .i64 0) 1 8 Tryd.underlying45 hi hz0 hz1 hz2 rfl (by decide) _ _ _ rfl (HO.out.alloc _) ⟨w4.heap.size, 0, none⟩ 1 1 [.int .i64 0] rfl rfl ?k1 ?k2 ?k3 ?k4 ?k5 ?_)
      case k1 =>
        intro j u hj
        match j, hj with
        | 0, hj => simp at hj; subst hj; exact World.cell?_alloc_at _ _ _ _ (by simp)
      case k2 => intro u hu; simp at hu; subst hu; rfl
      case k3 => unfold maxLen; omega
      case k4 => omega
      case k5 => simp; omega
      intro v1 w5 hown1 hgrow1 _
      have NB : Below (w.heap.size + 1 + 1 + 1) (w4.alloc (.cells #[.int .i64 0] 2 (0, 0))) w5 := Below.grown (Below.refl _ _) hgrow1 (by simp; omega) (fun k hk => by simp [Value.ownBlock] at hk; omega)
      have R5 := Lib.hid ((R4.out.alloc _).below3 NB)
      obtain ⟨g, cap, rfl, hg, hgl⟩ := hown1.form (by omega)
      have I5 : Hid (Ints w5 g 3 [x, y, 0]) := Lib.hid (ints_three hown1)
      have HG := Lib.hid hgl
      clear hown1 hgrow1 NB hg hgl hs4
      go_wp2_with fail
      refine (rcorners_any 1 (by omega) (by omega) _ _ _ _ [x, y, 0] [0] _ (I5.out.below ((Below.refl _ _).alloc (Nat.le_refl _) _) HG.out) (ints_one (by go_cell)) (fun z hz => by have := HB.out; have := HX.out; have := HY.out; unfold I64; rcases List.mem_cons.1 hz with rfl | hz; omega; rcases List.mem_cons.1 hz with rfl | hz; omega; rcases List.mem_cons.1 hz with rfl | hz; omega; cases hz) (fun z hz => ⟨(by rcases List.mem_cons.1 hz with rfl | hz; (unfold I64; omega); cases hz), fun h => by cases h⟩) (by simp) (by simp) (by simp) (by simp)).mono ?_; rw [← HL.out, HU.out]; rintro e w6 ⟨rfl, hb⟩
      have R9 := Lib.hid ((R5.out.alloc _).below hb)
      clear hb
      have g0 := R9.out.vR.c0
      have g1 := R9.out.vR.c1
      have g2 := R9.out.vR.f0
      have g3 := R9.out.vR.f1
      go_wp2_with fail
      refine bodyPost_ret (v := .agg #[.int .i64 u, .int .i64 v]) (by simp [results, Tryd.results8, go_sem, *]) rfl ⟨rfl, R9.out.done _ _⟩

end Go.Proofs.YtdbfaekdkjclcaaDoor
