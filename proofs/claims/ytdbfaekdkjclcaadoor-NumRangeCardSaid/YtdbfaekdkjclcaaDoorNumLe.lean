
/-
  THE WALK OF THE LAW NumEnds.
-/
import Derived.Test.YtdbfaekdkjclcaaDoorNumRa
import Derived.Test.YtdbfaekdkjclcaaDoorNumEm
import Derived.Test.YtdbfaekdkjclcaaDoorNumLi
import Derived.Deep.DeepCutAuto
import Derived.Deep.Slices
namespace Go.Proofs.YtdbfaekdkjclcaaDoor
open Go Go.RowKit

/-- WHAT NumEnds's OWN BLOCKS HOLD: the interval so far, the greatest one. -/
structure EBox (w : World) (a0 a1 c0 c1 : Int) (W : World) : Prop where
  a0 : W.cell? ⟨w.heap.size, 0, none⟩ = some (.int .i64 a0)
  a1 : W.cell? ⟨w.heap.size, 1, none⟩ = some (.int .i64 a1)
  f0 : W.frozen? ⟨w.heap.size, 0, none⟩ = false
  f1 : W.frozen? ⟨w.heap.size, 1, none⟩ = false
  c0 : W.cell? ⟨w.heap.size + 1, 0, none⟩ = some (.int .i64 c0)
  c1 : W.cell? ⟨w.heap.size + 1, 1, none⟩ = some (.int .i64 c1)
  big : w.heap.size + 2 ≤ W.heap.size
  bel : Below w.heap.size w W
  lad0 : Laid w
theorem EBox.lad {w : World} {a b c d : Int} {W : World} (h : EBox w a b c d W) : Laid W := h.lad0.after h.bel
theorem EBox.below {w : World} {a b c d : Int} {W w1 : World} (h : EBox w a b c d W) (hb : Below W.heap.size W w1) : EBox w a b c d w1 :=
  ⟨keepC hb h.a0, keepC hb h.a1, keepF hb h.a0 h.f0, keepF hb h.a1 h.f1, keepC hb h.c0, keepC hb h.c1, by have := hb.size; have := h.big; omega, after h.bel hb, h.lad0⟩
theorem EBox.turn {w : World} {a b c d : Int} {W : World} (h : EBox w a b c d W) (x y : Int) : EBox w x y c d ((W.setCell ⟨w.heap.size, 0, none⟩ (.int .i64 x)).setCell ⟨w.heap.size, 1, none⟩ (.int .i64 y)) := by
  have hb := h.big
  have k0 : (W.setCell ⟨w.heap.size, 0, none⟩ (.int .i64 x)).cell? ⟨w.heap.size, 1, none⟩ = some (.int .i64 b) := by rw [World.cell?_setCell_other _ _ _ _ (by simp)]; exact h.a1
  have hbel : Below w.heap.size w ((W.setCell ⟨w.heap.size, 0, none⟩ (.int .i64 x)).setCell ⟨w.heap.size, 1, none⟩ (.int .i64 y)) := (h.bel.setCell (Nat.le_refl _) _).setCell (Nat.le_refl _) _
  refine ⟨?_, World.cell?_setCell_same _ _ _ k0, by rw [World.frozen?_setCell, World.frozen?_setCell]; exact h.f0, by rw [World.frozen?_setCell, World.frozen?_setCell]; exact h.f1, ?_, ?_, by simp; omega, hbel, h.lad0⟩
  · rw [World.cell?_setCell_other _ _ _ _ (by simp)]
    exact World.cell?_setCell_same _ _ _ h.a0
  · rw [World.cell?_setCell_other _ _ _ _ (by simp), World.cell?_setCell_other _ _ _ _ (by simp)]
    exact h.c0
  · rw [World.cell?_setCell_other _ _ _ _ (by simp), World.cell?_setCell_other _ _ _ _ (by simp)]
    exact h.c1
theorem EBox.start (w : World) (a b c d : Int) (L : Laid w) : EBox w a b c d ((w.alloc (.cells #[.int .i64 a, .int .i64 b] 24)).alloc (.cells #[.int .i64 c, .int .i64 d] 24)) :=
  ⟨by go_cell, by go_cell, by go_cell, by go_cell, by go_cell, by go_cell, by simp, boxed (boxed (Below.refl _ _) _) _, L⟩

/-- A cell that is there stays, wherever it lies. -/
theorem keepA' {W w1 : World} {a : Addr} {v : Value} (hb : Below W.heap.size W w1) (h : W.cell? a = some v) : w1.cell? a = some v := by
  rw [hb.cell (World.block_lt_of_cell? W a h)]; exact h
theorem keepA {w W : World} {a : Addr} {v : Value} (hb : Below w.heap.size w W) (h : w.cell? a = some v) : W.cell? a = some v := keepA' hb h

theorem keepN {W : World} {a : Addr} {v : Value} (o : Obj) (h : W.cell? a = some v) : (W.alloc o).cell? a = some v :=
  keepA' ((Below.refl _ _).alloc (Nat.le_refl _) o) h
theorem keepS {W : World} {a : Addr} {g : Nat} {v : Value} (u u' : Value) (h : W.cell? a = some v) (hne : ¬ g = a.block) : ((W.setCell ⟨g, 0, none⟩ u).setCell ⟨g, 1, none⟩ u').cell? a = some v := by
  rw [World.cell?_setCell_far _ _ _ _ hne, World.cell?_setCell_far _ _ _ _ hne]; exact h

theorem belowC {W w1 : World} (hb : Below W.heap.size W w1) : (∀ b o, b < W.heap.size → w1.cell? ⟨b, o, none⟩ = W.cell? ⟨b, o, none⟩) ∧ (∀ b o, b < W.heap.size → w1.frozen? ⟨b, o, none⟩ = W.frozen? ⟨b, o, none⟩) :=
  ⟨fun _ _ h => hb.cell h, fun _ _ h => hb.frozen h⟩

theorem counted_yes {a0 a1 n0 n1 : Int} (h : ¬ (n0 = a0 ∧ n1 = a1) ∧ (a0 ≤ a1 ∨ n0 ≤ n1)) : counted a0 a1 n0 n1 = true := decide_eq_true h

theorem ends_long (a0 a1 c0 c1 : Int) (p : Option Addr) (len cap : Nat) (w : World) (L : Laid w) (hl : 100 < len) (hm : len ≤ maxLen) :
    Calls Tryd.prog 5 #[.agg #[.int .i64 a0, .int .i64 a1], .agg #[.int .i64 c0, .int .i64 c1], .slice p len cap] w (Gives w (.bool true)) := by
  unfold maxLen at hm
  have R0 := Lib.hid (EBox.start w a0 a1 c0 c1 L)
  clear L
  go_enter Tryd.func5, Tryd.ntmps5
  go_wp2_with (first
      | (go_at_call 9; refine (head_true _ R0.out.lad).mono ?_; rintro e w1 ⟨rfl, hb⟩))
  all_goals go_returns
  all_goals exact ⟨rfl, after R0.out.bel hb⟩

set_option maxHeartbeats 1000000 in
theorem ends_short (a0 a1 c0 c1 : Int) (p : Option Addr) (len cap : Nat) (w : World) (L : Laid w) (hl : len ≤ 100) (hw : I64 a0 ∧ I64 a1)
    (hc : ∀ i, i < len → ∃ (a : Addr) (x y : Int), p = some a ∧ w.cell? (a.add (i * 2)) = some (.int .i64 x) ∧ w.cell? (a.add (i * 2 + 1)) = some (.int .i64 y) ∧ I64 x ∧ I64 y) :
    Calls Tryd.prog 5 #[.agg #[.int .i64 a0, .int .i64 a1], .agg #[.int .i64 c0, .int .i64 c1], .slice p len cap] w (Gives w (.bool true)) := by
  have R0 := Lib.hid (EBox.start w a0 a1 c0 c1 L)
  have HC := Lib.hid hc
  clear L hc
  go_enter Tryd.func5, Tryd.ntmps5
  go_wp2
  go_loopw [7, 8] (fun ch i wr => ∃ (k c : Nat) (x0 x1 : Int), k ≤ len ∧ i = .int .i64 k ∧ ch = .int .i64 c ∧ c + pot x0 x1 c0 c1 ≤ 5 ∧ EBox w x0 x1 c0 c1 wr) (fun _ i _ => len - (intOf i).toNat)
  case atStart => exact ⟨0, 0, a0, a1, Nat.zero_le _, rfl, rfl, by have := pot_le a0 a1 c0 c1; omega, R0.out⟩
  case round =>
    obtain ⟨k, c, x0, x1, hk, rfl, rfl, hp, hE⟩ := hrel
    by_cases hlt : k < len
    · obtain ⟨a, y0, y1, rfl, g0, g1, hI0, hI1⟩ := HC.out k hlt
      obtain ⟨n0, n1, hn⟩ := widen_iv x0 x1 y0 y1 c0 c1
      have hstep := pot_step hI0.1 hI1.2 hn
      have HN := Lib.hid hn
      have HS := Lib.hid hstep
      have HE := Lib.hid hE
      have G0 : wr.cell? (a.add (k * 2)) = some (.int .i64 y0) := keepA hE.bel g0
      have G1 : wr.cell? ⟨(a.add (k * 2)).block, (a.add (k * 2)).off + 1, none⟩ = some (.int .i64 y1) := by
        have e : (a.add (k * 2)).add 1 = ⟨(a.add (k * 2)).block, (a.add (k * 2)).off + 1, none⟩ := by unfold Addr.add; simp
        rw [← e, Go.Deep.add_add]
        exact keepA hE.bel g1
      have e0 := hE.a0
      have e1 := hE.a1
      have e2 := hE.c0
      have e3 := hE.c1
      have hbig := hE.big
      have hblk := World.block_lt_of_cell? _ _ G0
      clear hn hstep hE g0 g1 R0
      go_upto_region 7 with fail
      go_cut [9] (fun s9 wx => ∃ g : Nat, s9 = .pointer (some ⟨g, 0, none⟩) ∧ EBox w x0 x1 c0 c1 wx ∧ wx.cell? ⟨g, 0, none⟩ = some (.int .i64 n0) ∧ wx.cell? ⟨g, 1, none⟩ = some (.int .i64 n1) ∧ w.heap.size + 2 ≤ g ∧ g < wx.heap.size)
      case first =>
        refine wp_region_held_drew (S := fun w' => w'.cell? ⟨w.heap.size, 0, none⟩ = some (.int .i64 x0) ∧ w'.cell? ⟨w.heap.size, 1, none⟩ = some (.int .i64 x1) ∧ w'.cell? ⟨w.heap.size + 1, 0, none⟩ = some (.int .i64 c0) ∧ w'.cell? ⟨w.heap.size + 1, 1, none⟩ = some (.int .i64 c1) ∧ w'.cell? (a.add (k * 2)) = some (.int .i64 y0) ∧ w'.cell? ⟨(a.add (k * 2)).block, (a.add (k * 2)).off + 1, none⟩ = some (.int .i64 y1)) (by kernel_rfl) ?_ (fun hHeld => ?_)
        · (try dsimp only)
          (first | (go_split_ands; refine ⟨?_, ?_, ?_, ?_, ?_, ?_⟩ <;> first | assumption | exact keepA' (by assumption) (by assumption) | exact keepN _ (by assumption) | exact keepS _ _ (by assumption) (by (try dsimp only); omega)) | (refine ⟨?_, ?_, ?_, ?_, ?_, ?_⟩ <;> first | assumption | go_cell))
        refine wpAnyH_take (i := 0) (v := ?_) (by simp only [List.getElem?_toArray, List.getElem?_cons_zero, List.getElem?_cons_succ]; rfl) (by kernel_rfl) (by kernel_rfl) (by kernel_rfl) (by exact fun _ _ _ h => h) (Or.inl ⟨by rfl, ?_⟩) (by assumption) ?_
        rotate_left
        · (intro w' hSw; (try dsimp only at hSw); go_simp; try with_reducible rfl)
        try simp only [Act.put, List.setIfInBounds_toArray, List.set_cons_zero, List.set_cons_succ]
        refine wpAnyH_take (i := 1) (v := ?_) (by simp only [List.getElem?_toArray, List.getElem?_cons_zero, List.getElem?_cons_succ]; rfl) (by kernel_rfl) (by kernel_rfl) (by kernel_rfl) (by exact fun _ _ _ h => h) (Or.inl ⟨by rfl, ?_⟩) (by assumption) ?_
        rotate_left
        · (intro w' hSw; (try dsimp only at hSw); go_simp; try with_reducible rfl)
        try simp only [Act.put, List.setIfInBounds_toArray, List.set_cons_zero, List.set_cons_succ]
        refine wpAnyH_take (i := 2) (v := ?_) (by simp only [List.getElem?_toArray, List.getElem?_cons_zero, List.getElem?_cons_succ]; rfl) (by kernel_rfl) (by kernel_rfl) (by kernel_rfl) (by exact fun _ _ _ h => h) (Or.inl ⟨by rfl, ?_⟩) (by assumption) ?_
        rotate_left
        · (intro w' hSw; (try dsimp only at hSw); go_simp; try with_reducible rfl)
        try simp only [Act.put, List.setIfInBounds_toArray, List.set_cons_zero, List.set_cons_succ]
        refine wpAnyH_take (i := 3) (v := ?_) (by simp only [List.getElem?_toArray, List.getElem?_cons_zero, List.getElem?_cons_succ]; rfl) (by kernel_rfl) (by kernel_rfl) (by kernel_rfl) (by exact fun _ _ _ h => h) (Or.inl ⟨by rfl, ?_⟩) (by assumption) ?_
        rotate_left
        · (intro w' hSw; (try dsimp only at hSw); go_simp; try with_reducible rfl)
        try simp only [Act.put, List.setIfInBounds_toArray, List.set_cons_zero, List.set_cons_succ]
        refine wpAnyH_take (i := 4) (v := ?_) (by simp only [List.getElem?_toArray, List.getElem?_cons_zero, List.getElem?_cons_succ]; rfl) (by kernel_rfl) (by kernel_rfl) (by kernel_rfl) (by exact fun _ _ _ h => h) (Or.inl ⟨by rfl, ?_⟩) (by assumption) ?_
        rotate_left
        · (intro w' hSw; (try dsimp only at hSw); go_simp; try with_reducible rfl)
        try simp only [Act.put, List.setIfInBounds_toArray, List.set_cons_zero, List.set_cons_succ]
        refine wpAnyH_take (i := 5) (v := ?_) (by simp only [List.getElem?_toArray, List.getElem?_cons_zero, List.getElem?_cons_succ]; rfl) (by kernel_rfl) (by kernel_rfl) (by kernel_rfl) (by exact fun _ _ _ h => h) (Or.inl ⟨by rfl, ?_⟩) (by assumption) ?_
        rotate_left
        · (intro w' hSw; (try dsimp only at hSw); go_simp; try with_reducible rfl)
        try simp only [Act.put, List.setIfInBounds_toArray, List.set_cons_zero, List.set_cons_succ]
        refine wpAnyH_ready (rs := [6, 7]) (by kernel_rfl) (by simp) ?_
        refine AllReadyH.cons (by simp only [List.getElem?_toArray, List.getElem?_cons_zero, List.getElem?_cons_succ]; rfl) (fun K hK => ?_) (AllReadyH.cons (by simp only [List.getElem?_toArray, List.getElem?_cons_zero, List.getElem?_cons_succ]; rfl) (fun K hK => ?_) (AllReadyH.nil))
        · go_simp
          refine (widen_any _ _ _ _ _ _ _ (HE.out.lad.after (by (repeat' (first | (with_reducible exact Below.refl _ _) | (with_reducible assumption) | (with_reducible refine boxed ?_ _) | (with_reducible refine Below.drew ?_) | (with_reducible refine after ?_ (by assumption)))); go_grown))).mono ?_; rw [HN.out]; rintro e w1 ⟨rfl, hb⟩
          have hz := hb.size
          simp at hz
          obtain ⟨hc1, hf1⟩ := belowC hb
          go_wp2_with fail
          refine hK.out _ _ ?_ (fun hHeld => ?_)
          · (try dsimp only)
            (first | (go_split_ands; refine ⟨?_, ?_, ?_, ?_, ?_, ?_⟩ <;> first | assumption | exact keepA' (by assumption) (by assumption) | exact keepN _ (by assumption) | exact keepS _ _ (by assumption) (by (try dsimp only); omega)) | (refine ⟨?_, ?_, ?_, ?_, ?_, ?_⟩ <;> first | assumption | go_cell))
          clear hK K
          try simp only [Act.put, List.setIfInBounds_toArray, List.set_cons_zero, List.set_cons_succ]
          refine wpAnyH_ready (rs := [7]) (by kernel_rfl) (by simp) ?_
          refine AllReadyH.cons (by simp only [List.getElem?_toArray, List.getElem?_cons_zero, List.getElem?_cons_succ]; rfl) (fun K hK => ?_) (AllReadyH.nil)
          go_simp
          go_wp2_with fail
          refine hK.out _ _ ?_ (fun hHeld => ?_)
          · (try dsimp only)
            (first | (go_split_ands; refine ⟨?_, ?_, ?_, ?_, ?_, ?_⟩ <;> first | assumption | exact keepA' (by assumption) (by assumption) | exact keepN _ (by assumption) | exact keepS _ _ (by assumption) (by (try dsimp only); omega)) | (refine ⟨?_, ?_, ?_, ?_, ?_, ?_⟩ <;> first | assumption | go_cell))
          clear hK K
          try simp only [Act.put, List.setIfInBounds_toArray, List.set_cons_zero, List.set_cons_succ]
          refine wpAnyH_ready (rs := [8]) (by kernel_rfl) (by simp) ?_
          refine AllReadyH.cons (by simp only [List.getElem?_toArray, List.getElem?_cons_zero, List.getElem?_cons_succ]; rfl) (fun K hK => ?_) (AllReadyH.nil)
          go_simp
          go_wp2_with fail
          refine hK.out _ _ ?_ (fun hHeld => ?_)
          · (try dsimp only)
            (first | (go_split_ands; refine ⟨?_, ?_, ?_, ?_, ?_, ?_⟩ <;> first | assumption | exact keepA' (by assumption) (by assumption) | exact keepN _ (by assumption) | exact keepS _ _ (by assumption) (by (try dsimp only); omega)) | (refine ⟨?_, ?_, ?_, ?_, ?_, ?_⟩ <;> first | assumption | go_cell))
          clear hK K
          try simp only [Act.put, List.setIfInBounds_toArray, List.set_cons_zero, List.set_cons_succ]
          refine wpAnyH_done (by kernel_rfl) ?_ _
          go_wp2_with fail
          go_meet
          refine ⟨_, rfl, HE.out.below ?_, by go_cell, by go_cell, by omega, ?_⟩
          · first
            | exact boxed (after (by go_grown) hb) _
            | (refine Below.setCell (Below.setCell (after (by go_grown) hb) ?_ _) ?_ _ <;> first | (simp; done) | (simp; omega))
          · first | (simp; done) | (simp; omega)
        · go_simp
          go_wp2_with fail
          refine hK.out _ _ ?_ (fun hHeld => ?_)
          · (try dsimp only)
            (first | (go_split_ands; refine ⟨?_, ?_, ?_, ?_, ?_, ?_⟩ <;> first | assumption | exact keepA' (by assumption) (by assumption) | exact keepN _ (by assumption) | exact keepS _ _ (by assumption) (by (try dsimp only); omega)) | (refine ⟨?_, ?_, ?_, ?_, ?_, ?_⟩ <;> first | assumption | go_cell))
          clear hK K
          try simp only [Act.put, List.setIfInBounds_toArray, List.set_cons_zero, List.set_cons_succ]
          refine wpAnyH_ready (rs := [6]) (by kernel_rfl) (by simp) ?_
          refine AllReadyH.cons (by simp only [List.getElem?_toArray, List.getElem?_cons_zero, List.getElem?_cons_succ]; rfl) (fun K hK => ?_) (AllReadyH.nil)
          go_simp
          refine (widen_any _ _ _ _ _ _ _ (HE.out.lad.after (by (repeat' (first | (with_reducible exact Below.refl _ _) | (with_reducible assumption) | (with_reducible refine boxed ?_ _) | (with_reducible refine Below.drew ?_) | (with_reducible refine after ?_ (by assumption)))); go_grown))).mono ?_; rw [HN.out]; rintro e w1 ⟨rfl, hb⟩
          have hz := hb.size
          simp at hz
          obtain ⟨hc1, hf1⟩ := belowC hb
          go_wp2_with fail
          refine hK.out _ _ ?_ (fun hHeld => ?_)
          · (try dsimp only)
            (first | (go_split_ands; refine ⟨?_, ?_, ?_, ?_, ?_, ?_⟩ <;> first | assumption | exact keepA' (by assumption) (by assumption) | exact keepN _ (by assumption) | exact keepS _ _ (by assumption) (by (try dsimp only); omega)) | (refine ⟨?_, ?_, ?_, ?_, ?_, ?_⟩ <;> first | assumption | go_cell))
          clear hK K
          try simp only [Act.put, List.setIfInBounds_toArray, List.set_cons_zero, List.set_cons_succ]
          refine wpAnyH_ready (rs := [8]) (by kernel_rfl) (by simp) ?_
          refine AllReadyH.cons (by simp only [List.getElem?_toArray, List.getElem?_cons_zero, List.getElem?_cons_succ]; rfl) (fun K hK => ?_) (AllReadyH.nil)
          go_simp
          go_wp2_with fail
          refine hK.out _ _ ?_ (fun hHeld => ?_)
          · (try dsimp only)
            (first | (go_split_ands; refine ⟨?_, ?_, ?_, ?_, ?_, ?_⟩ <;> first | assumption | exact keepA' (by assumption) (by assumption) | exact keepN _ (by assumption) | exact keepS _ _ (by assumption) (by (try dsimp only); omega)) | (refine ⟨?_, ?_, ?_, ?_, ?_, ?_⟩ <;> first | assumption | go_cell))
          clear hK K
          try simp only [Act.put, List.setIfInBounds_toArray, List.set_cons_zero, List.set_cons_succ]
          refine wpAnyH_done (by kernel_rfl) ?_ _
          go_wp2_with fail
          go_meet
          refine ⟨_, rfl, HE.out.below ?_, by go_cell, by go_cell, by omega, ?_⟩
          · first
            | exact boxed (after (by go_grown) hb) _
            | (refine Below.setCell (Below.setCell (after (by go_grown) hb) ?_ _) ?_ _ <;> first | (simp; done) | (simp; omega))
          · first | (simp; done) | (simp; omega)
      case rest =>
        obtain ⟨g, rfl, hE2, m0, m1, hg1, hg2⟩ := hcut
        have HE2 := Lib.hid hE2
        have d0 := hE2.a0
        have d1 := hE2.a1
        have d2 := hE2.f0
        have d3 := hE2.f1
        clear hE2 e0 e1 e2 e3 G0 G1 hbig hblk
        have hlast : ∀ (c' : Nat) (W : World), c' + pot n0 n1 c0 c1 ≤ 5 → EBox w n0 n1 c0 c1 W → True := fun _ _ _ _ => trivial
        clear hlast
        by_cases h0 : n0 = x0
        · obtain rfl := h0
          by_cases h1 : n1 = x1
          · obtain rfl := h1
            go_wp2
            all_goals
              go_roundw
              case rel =>
                first
                | exact ⟨k + 1, c + 1, n0, n1, by omega, by go_num, by go_num, by (have hs := HS.out; rw [if_pos (counted_yes (by omega))] at hs; omega), HE2.out.turn _ _⟩
                | exact ⟨k + 1, c, n0, n1, by omega, by go_num, rfl, by (have hs := HS.out; omega), HE2.out.turn _ _⟩
              case measure => simp [intOf]; omega
          · have b0 : (n1 == x1) = false := beq_eq_false_iff_ne.2 h1
            go_wp2
            all_goals
              go_roundw
              case rel =>
                first
                | exact ⟨k + 1, c + 1, n0, n1, by omega, by go_num, by go_num, by (have hs := HS.out; rw [if_pos (counted_yes (by omega))] at hs; omega), HE2.out.turn _ _⟩
                | exact ⟨k + 1, c, n0, n1, by omega, by go_num, rfl, by (have hs := HS.out; omega), HE2.out.turn _ _⟩
              case measure => simp [intOf]; omega
        · have b0 : (n0 == x0) = false := beq_eq_false_iff_ne.2 h0
          go_wp2
          all_goals
            go_roundw
            case rel =>
              first
              | exact ⟨k + 1, c + 1, n0, n1, by omega, by go_num, by go_num, by (have hs := HS.out; rw [if_pos (counted_yes (by omega))] at hs; omega), HE2.out.turn _ _⟩
              | exact ⟨k + 1, c, n0, n1, by omega, by go_num, rfl, by (have hs := HS.out; omega), HE2.out.turn _ _⟩
            case measure => simp [intOf]; omega
    · have hp5 : (c : Int) ≤ 5 := by omega
      go_wp2_with (first
        | (go_at_call 9; refine (head_true _ hE.lad).mono ?_; rintro e w1 ⟨rfl, hb⟩))
      all_goals go_returns
      all_goals exact ⟨rfl, after hE.bel hb⟩

/-- What is known of a slice of intervals that came in. -/
def IvalsIn (w : World) (p : Option Addr) (len : Nat) : Prop :=
  len ≤ maxLen ∧ ∀ i, i < len → ∃ (a : Addr) (x y : Int), p = some a ∧ w.cell? (a.add (i * 2)) = some (.int .i64 x) ∧ w.cell? (a.add (i * 2 + 1)) = some (.int .i64 y) ∧ I64 x ∧ I64 y

theorem law_numEnds (a0 a1 c0 c1 : Int) (p : Option Addr) (len cap : Nat) (w : World) (L : Laid w) (ha0 : I64 a0) (ha1 : I64 a1) (_hc0 : I64 c0) (_hc1 : I64 c1) (hl : IvalsIn w p len) :
    Calls Tryd.prog 5 #[.agg #[.int .i64 a0, .int .i64 a1], .agg #[.int .i64 c0, .int .i64 c1], .slice p len cap] w (Gives w (.bool true)) := by
  by_cases h : 100 < len
  · exact ends_long a0 a1 c0 c1 p len cap w L h hl.1
  · exact ends_short a0 a1 c0 c1 p len cap w L (by omega) ⟨ha0, ha1⟩ hl.2

end Go.Proofs.YtdbfaekdkjclcaaDoor
