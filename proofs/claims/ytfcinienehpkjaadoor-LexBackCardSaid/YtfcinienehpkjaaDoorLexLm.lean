
/-
  THE LAW LexMays: its walk.
-/
import Derived.Test.YtfcinienehpkjaaDoorLexAk
import Derived.Test.YtfcinienehpkjaaDoorLexOp
import Derived.Test.YtfcinienehpkjaaDoorLexG
import Derived.Test.YtfcinienehpkjaaDoorLexS
import Derived.Deep.RegionHeld3
namespace Go.Proofs.YtfcinienehpkjaaDoor
open Go Go.RowKit

theorem like_refl : ∀ xs : List TokR, allB tokLike xs xs = true
  | [] => rfl
  | x :: xs => by unfold allB; rw [like_refl xs]; unfold tokLike likeB; simp

set_option maxRecDepth 100000 in
set_option maxHeartbeats 4000000 in
theorem law_lexMays (ap : Option Addr) (an ac : Nat) (bp : Option Addr) (bn bc : Nat) (w : World) (L : LibOk w) (ha : TokensIn w ap an) (hb : TokensIn w bp bn) : Calls Tryd.prog 4 #[.slice ap an ac, .slice bp bn bc] w (Gives w (.bool true)) := by
  obtain ⟨_, xs, hx, hxs⟩ := ha
  obtain ⟨_, ys, hy, _⟩ := hb
  have HL := Lib.hid L
  have HX := Lib.hid hx
  have HXS := Lib.hid hxs
  have HY := Lib.hid hy
  have HB := Lib.hid (Below.refl w.heap.size w)
  clear L hx hxs hy
  by_cases h1 : 300 < an
  · go_enter Tryd.func4, Tryd.ntmps4
    go_wp2_with (first
      | (go_at_call 19; refine (awake_any _ HL.out).mono ?_; rintro e w1 ⟨rfl, hb⟩; have HB := Lib.hid hb; clear hb))
    go_returns
    exact ⟨rfl, HB.out⟩
  · by_cases h2 : 300 < bn
    · go_enter Tryd.func4, Tryd.ntmps4
      go_wp2_with (first
        | (go_at_call 19; refine (awake_any _ HL.out).mono ?_; rintro e w1 ⟨rfl, hb⟩; have HB := Lib.hid hb; clear hb))
      go_returns
      exact ⟨rfl, HB.out⟩
    · have ha300 : an ≤ 300 := by omega
      have hb300 : bn ≤ 300 := by omega
      clear h1 h2
      obtain ⟨sm, hsm⟩ : ∃ sm, allB tokLike xs ys = sm := ⟨_, rfl⟩
      have HSM := Lib.hid hsm
      clear hsm
      go_enter Tryd.func4, Tryd.ntmps4
      go_wp2
      go_loopw [18] (fun i wr => ∃ k : Nat, k ≤ an ∧ i = .int .i64 k ∧ Below w.heap.size w wr) (fun i _ => an - (intOf i).toNat)
      case atStart => exact ⟨0, Nat.zero_le _, rfl, Below.refl _ _⟩
      case round =>
        obtain ⟨k, hk, rfl, hbel⟩ := hrel
        have HW := Lib.hid hbel
        by_cases hlt : k < an
        · obtain ⟨x, hx⟩ := tok_some HX.out.1 hlt
          obtain ⟨a, rfl, hax⟩ := HX.out.2 k x hx
          have hsz := HXS.out k x hx
          obtain ⟨x0, x1, x2, x3⟩ := hax.below hbel
          have hblx := World.block_lt_of_cell? _ _ x0
          obtain ⟨xk, xl, xt, xn⟩ := x
          dsimp only at x0 x1 x2 x3 hsz
          obtain ⟨mb, hmb⟩ : ∃ mb, mayB xk xt xn = mb := ⟨_, rfl⟩
          have HMB := Lib.hid hmb
          have HSZ := Lib.hid hsz
          have hal := (Below.refl wr.heap.size wr).alloc (Nat.le_refl _) (.cells #[.int .u8 xk, .int .i64 xl, .string xt, .int .i64 xn] 27)
          have HB5 := Lib.hid (after HW.out hal)
          have hT6 : TkBox wr.heap.size ⟨xk, xl, xt, xn⟩ (wr.alloc (.cells #[.int .u8 xk, .int .i64 xl, .string xt, .int .i64 xn] 27)) := World.alloc_heap_new wr _
          obtain ⟨t0, t1, t2, t3⟩ := hT6.cells
          clear hx hax hsz hmb hal hT6 hbel
          go_wp2_with fail
          refine wp_region_held_drew (S := fun w' => w'.cell? ⟨wr.heap.size, 0, none⟩ = some (.int .u8 xk) ∧ w'.cell? ⟨wr.heap.size, 1, none⟩ = some (.int .i64 xl) ∧ w'.cell? ⟨wr.heap.size, 2, none⟩ = some (.string xt) ∧ w'.cell? ⟨wr.heap.size, 3, none⟩ = some (.int .i64 xn)) (by kernel_rfl) (by exact ⟨t0, t1, t2, t3⟩) (fun hHeld => ?_)
          refine wpAnyH_take (i := 0) (v := ?_) (by simp only [List.getElem?_toArray, List.getElem?_cons_zero]; rfl) (by kernel_rfl) (by kernel_rfl) (by kernel_rfl) (by exact fun _ _ _ h => h) (Or.inl ⟨by rfl, ?_⟩) (by assumption) ?_
          rotate_left
          · (intro w' hSw; (try dsimp only at hSw); go_simp; try with_reducible rfl)
          try simp only [Act.put, List.setIfInBounds_toArray, List.set_cons_zero, List.set_cons_succ]
          refine wpAnyH_take (i := 2) (v := ?_) (by simp only [List.getElem?_toArray, List.getElem?_cons_zero, List.getElem?_cons_succ]; rfl) (by kernel_rfl) (by kernel_rfl) (by kernel_rfl) (by exact fun _ _ _ h => h) (Or.inl ⟨by rfl, ?_⟩) (by assumption) ?_
          rotate_left
          · (intro w' hSw; (try dsimp only at hSw); go_simp; try with_reducible rfl)
          try simp only [Act.put, List.setIfInBounds_toArray, List.set_cons_zero, List.set_cons_succ]
          refine wpAnyH_ready (rs := [1]) (by kernel_rfl) (by simp) ?_
          refine AllReadyH.cons (by simp only [List.getElem?_toArray, List.getElem?_cons_zero, List.getElem?_cons_succ]; rfl) (fun K hK => ?_) (AllReadyH.nil)
          go_simp
          refine (may_any _ _ _ _ _ HSZ.out).mono ?_; rw [HMB.out]; rintro e w5 ⟨rfl, hb⟩
          go_wp2_with fail
          refine hK.out _ _ ⟨keepA' hb hHeld.1, keepA' hb hHeld.2.1, keepA' hb hHeld.2.2.1, keepA' hb hHeld.2.2.2⟩ (fun hNext => ?_)
          clear hHeld hK K
          have hHeld := hNext
          clear hNext
          try simp only [Act.put, List.setIfInBounds_toArray, List.set_cons_zero, List.set_cons_succ]
          have WB := Lib.hid (after (Below.drew (Below.refl (wr.alloc (.cells #[.int .u8 xk, .int .i64 xl, .string xt, .int .i64 xn] 27)).heap.size (wr.alloc (.cells #[.int .u8 xk, .int .i64 xl, .string xt, .int .i64 xn] 27)))) hb)
          clear hb
          refine wpAnyH_ready (rs := [3]) (by kernel_rfl) (by simp) ?_
          refine AllReadyH.cons (by simp only [List.getElem?_toArray, List.getElem?_cons_zero, List.getElem?_cons_succ]; rfl) (fun K hK => ?_) (AllReadyH.nil)
          go_simp
          refine (rmay_any _ _ _ _ _ HSZ.out).mono ?_; rw [HMB.out]; rintro e w5 ⟨rfl, hb⟩
          go_wp2_with fail
          refine hK.out _ _ ⟨keepA' hb hHeld.1, keepA' hb hHeld.2.1, keepA' hb hHeld.2.2.1, keepA' hb hHeld.2.2.2⟩ (fun hNext => ?_)
          clear hHeld hK K
          have hHeld := hNext
          clear hNext
          try simp only [Act.put, List.setIfInBounds_toArray, List.set_cons_zero, List.set_cons_succ]
          have WB := Lib.hid (after (WB.out) hb)
          clear hb
          refine wpAnyH_take (i := 4) (v := ?_) (by simp only [List.getElem?_toArray, List.getElem?_cons_zero, List.getElem?_cons_succ]; rfl) (by kernel_rfl) (by kernel_rfl) (by kernel_rfl) (by exact fun _ _ _ h => h) (Or.inl ⟨by rfl, ?_⟩) (by assumption) ?_
          rotate_left
          · (intro w' hSw; (try dsimp only at hSw); go_simp; try with_reducible rfl)
          try simp only [Act.put, List.setIfInBounds_toArray, List.set_cons_zero, List.set_cons_succ]
          refine wpAnyH_done (by kernel_rfl) ?_ _
          clear hHeld
          have HB6 := Lib.hid (after HB5.out WB.out)
          clear WB t0 t1 t2 t3
          go_wp2_with fail
          go_roundw
          case rel => exact ⟨k + 1, by omega, by go_num, HB6.out⟩
          case measure => simp [intOf]; omega
        · obtain rfl : k = an := by omega
          clear hbel
          have HY1 := HY
          cases sm
          all_goals
            go_wp2_with (first
              | (go_at_call 22; refine (same_any _ _ _ _ _ _ xs ys _ (HX.out.below HW.out) (HY1.out.below HW.out) (by omega) (by omega)).mono ?_; clear HY1; rw [HSM.out]; rintro e w1 ⟨rfl, hb⟩; have HW1 := Lib.hid (after HW.out hb); clear hb)
              | (go_at_call 23; refine (rsame_any _ _ _ _ _ _ xs ys _ (HX.out.below HW1.out) (HY.out.below HW1.out) (by omega) (by omega)).mono ?_; rw [HSM.out]; rintro e w2 ⟨rfl, hb⟩; have HW2 := Lib.hid (after HW1.out hb); clear hb)
              | (go_at_call 22; refine (same_any _ _ _ _ _ _ xs xs _ (HX.out.below HW2.out) (HX.out.below HW2.out) (by omega) (by omega)).mono ?_; rw [like_refl]; rintro e w3 ⟨rfl, hb⟩; have HW3 := Lib.hid (after HW2.out hb); clear hb)
              | (go_at_call 19; refine (awake_any _ (HL.out.below HW3.out)).mono ?_; rintro e w4 ⟨rfl, hb⟩; have HW4 := Lib.hid (after HW3.out hb); clear hb))
            go_returns
            exact ⟨rfl, HW4.out⟩

end Go.Proofs.YtfcinienehpkjaaDoor
