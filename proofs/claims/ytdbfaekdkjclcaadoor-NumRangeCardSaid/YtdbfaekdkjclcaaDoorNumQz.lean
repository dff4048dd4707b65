
/-
  THE REFERENCE's corners without divisors: the empty interval.
-/
import Derived.Test.YtdbfaekdkjclcaaDoorNumQb
import Derived.Test.YtdbfaekdkjclcaaDoorNumQd
namespace Go.Proofs.YtdbfaekdkjclcaaDoor
open Go Go.RowKit

set_option maxRecDepth 100000 in
set_option maxHeartbeats 4000000 in
theorem rcorners_nil (op : Int) (bx cx : Nat) (w : World) :
    Calls Tryd.prog 29 #[.int .u8 op, .slice (some ⟨bx, 0, none⟩) 2 cx, .slice none 0 0] w (Gives w (.agg #[.int .i64 1, .int .i64 0])) := by
  go_enter Tryd.func29, Tryd.ntmps29
  go_wp2_with fail
  refine (rnone_lit _).mono ?_
  rintro e w1 ⟨rfl, hb1⟩
  have VR : Hid (Var2 w w1 w.heap.size 0 0) := (Var2.made (Nat.le_refl _) _ _).below hb1
  have BW : Hid (Below w.heap.size w w1) := after (by (repeat' (first | (with_reducible exact Below.refl _ _) | (with_reducible assumption) | (with_reducible refine boxed ?_ _) | (with_reducible refine Below.drew ?_) | (with_reducible refine after ?_ (by assumption))))) hb1
  have hs := hb1.size
  simp at hs
  have XI : Hid (Var2 w (w1.alloc (.cells #[.int .i64 1, .int .i64 0] 24)) w.heap.size 0 0 ∧ Var2 w (w1.alloc (.cells #[.int .i64 1, .int .i64 0] 24)) w1.heap.size 1 0 ∧ Below w.heap.size w (w1.alloc (.cells #[.int .i64 1, .int .i64 0] 24))) :=
    ⟨VR.out.alloc _, Var2.made BW.out.size _ _, boxed BW.out _⟩
  clear hb1 VR BW hs
  go_wp2_with fail
  generalize w1.heap.size = H at *
  go_loopw [8] (fun x wr => ∃ i : Nat, x = .int .i64 i ∧ i ≤ 2 ∧ Var2 w wr w.heap.size 0 0 ∧ Var2 w wr H 1 0 ∧ Below w.heap.size w wr) (fun x _ => 2 - (intOf x).toNat)
  case atStart => exact ⟨0, rfl, by omega, XI.out⟩
  case round =>
    clear XI
    obtain ⟨i, rfl, hin, hI⟩ := hrel
    have HI := Lib.hid hI
    clear hI
    by_cases hlt : i < 2
    · go_wp2_with fail
      obtain ⟨wo, rfl⟩ : ∃ wo : World, wo = wr := ⟨_, rfl⟩
      go_loopw [9, 10, 11] (fun y _ _ wr => y = .int .i64 0 ∧ Var2 w wr w.heap.size 0 0 ∧ Var2 w wr H 1 0 ∧ Below w.heap.size w wr) (fun _ _ _ _ => 0)
      case atStart => exact ⟨rfl, HI.out⟩
      case round =>
        clear HI
        obtain ⟨rfl, hI⟩ := hrel
        have HI := Lib.hid hI
        clear hI
        go_wp2_with fail
        go_roundw
        case rel => exact ⟨i + 1, by go_num, by omega, HI.out⟩
        case measure => simp [intOf]; omega
    · obtain rfl : i = 2 := by omega
      obtain ⟨vR, vH, _⟩ := HI.out
      have k0 := vH.c0
      have k1 := vH.c1
      have k2 := vR.c0
      have k3 := vR.c1
      have k4 := vR.f0
      have k5 := vR.f1
      clear vR vH
      go_wp2_with fail
      refine bodyPost_ret (v := .agg #[.int .i64 1, .int .i64 0]) (by simp [results, Tryd.results29, go_sem, *]) rfl ⟨rfl, ?_⟩
      exact Below.setCell (Below.setCell HI.out.2.2 (Nat.le_refl _) _) (Nat.le_refl _) _

end Go.Proofs.YtdbfaekdkjclcaaDoor
