/-
  THE WALKS OF THE LAWS NumApply, NumWrap, NumAgrees.
-/
import Derived.Test.YtmmplaabgnmkcaaDoorNumRa
namespace Go.Proofs.YtmmplaabgnmkcaaDoor
open Go Go.RowKit

theorem law_numApply (op a b : Int) (w : World) (L : Laid w) (ho : 0 ≤ op ∧ op ≤ 255) (_ha : -9223372036854775808 ≤ a ∧ a ≤ 9223372036854775807) (_hb : -9223372036854775808 ≤ b ∧ b ≤ 9223372036854775807) :
    Calls Tryd.prog 3 #[.int .u8 op, .int .i64 a, .int .i64 b] w (Gives w (.bool true)) := by
  obtain ⟨h0, _⟩ := ho
  go_enter Tryd.func3, Tryd.ntmps3
  go_wp2_with (first
    | (go_at_call 12; refine (apply_any _ _ _ h0 _ (by assumption)).mono ?_; rintro e w' ⟨rfl, hb⟩; have hL := Laid.after (by assumption) hb)
    | (go_at_call 13; refine (rapply_any _ _ _ h0 _).mono ?_; rintro e w' ⟨rfl, hb⟩; have hL := Laid.after (by assumption) hb)
    | (go_at_call 14; refine (in_any _ _).mono ?_; rintro e w' ⟨rfl, hb⟩; have hL := Laid.after (by assumption) hb)
    | (go_at_call 15; refine (rin_any _ _).mono ?_; rintro e w' ⟨rfl, hb⟩; have hL := Laid.after (by assumption) hb)
    | (go_at_call 16; refine (head_true _ (by assumption)).mono ?_; rintro e w' ⟨rfl, hb⟩))
  go_returns
  exact ⟨rfl, by (repeat' (first | (with_reducible exact Below.refl _ _) | (with_reducible assumption) | (with_reducible refine boxed ?_ _) | (with_reducible refine Below.drew ?_) | (with_reducible refine after ?_ (by assumption))))⟩

theorem law_numWrap (op a b : Int) (w : World) (L : Laid w) (ho : 0 ≤ op ∧ op ≤ 255) (_ha : -9223372036854775808 ≤ a ∧ a ≤ 9223372036854775807) (_hb : -9223372036854775808 ≤ b ∧ b ≤ 9223372036854775807) :
    Calls Tryd.prog 4 #[.int .u8 op, .int .i64 a, .int .i64 b] w (Gives w (.bool true)) := by
  obtain ⟨h0, _⟩ := ho
  go_enter Tryd.func4, Tryd.ntmps4
  go_wp2_with (first
    | (go_at_call 17; refine (wrap_any _ _ _ h0 _).mono ?_; rintro e w' ⟨rfl, hb⟩; have hL := Laid.after (by assumption) hb)
    | (go_at_call 18; refine (rwrap_any _ _ _ h0 _).mono ?_; rintro e w' ⟨rfl, hb⟩; have hL := Laid.after (by assumption) hb)
    | (go_at_call 16; refine (head_true _ (by assumption)).mono ?_; rintro e w' ⟨rfl, hb⟩))
  go_returns
  exact ⟨rfl, by (repeat' (first | (with_reducible exact Below.refl _ _) | (with_reducible assumption) | (with_reducible refine boxed ?_ _) | (with_reducible refine Below.drew ?_) | (with_reducible refine after ?_ (by assumption))))⟩

theorem agrees_yes (op a b : Int) (w : World) (L : Laid w) (h0 : 0 ≤ op) (h : applyHas op a b = true) :
    Calls Tryd.prog 7 #[.int .u8 op, .int .i64 a, .int .i64 b] w (Gives w (.bool true)) := by
  have e2 := h
  have e1 := applyV_yes h
  simp only [applyHas, Bool.and_eq_true] at h
  obtain ⟨⟨ht, _⟩, h5, h6⟩ := h
  have ha := takes_in ht
  clear ht
  go_enter Tryd.func7, Tryd.ntmps7
  go_wp2_with (first
    | (go_at_call 12; refine (apply_any _ _ _ h0 _ (by assumption)).mono ?_; rw [e1, e2]; rintro e w' ⟨rfl, hb⟩; have hL := Laid.after (by assumption) hb)
    | (go_at_call 17; refine (wrap_any _ _ _ h0 _).mono ?_; rintro e w' ⟨rfl, hb⟩; have hL := Laid.after (by assumption) hb)
    | (go_at_call 14; refine (in_any _ _).mono ?_; rintro e w' ⟨rfl, hb⟩; have hL := Laid.after (by assumption) hb)
    | (go_at_call 16; refine (head_true _ (by assumption)).mono ?_; rintro e w' ⟨rfl, hb⟩))
  go_returns
  exact ⟨rfl, by (repeat' (first | (with_reducible exact Below.refl _ _) | (with_reducible assumption) | (with_reducible refine boxed ?_ _) | (with_reducible refine Below.drew ?_) | (with_reducible refine after ?_ (by assumption))))⟩

/-- Without a checked value: why. -/
theorem agrees_why {op a b : Int} (h : applyHas op a b = false) : logicB op = true ∨ opHas op b = false ∨ inBase (wrapV op a b) = false ∨ inBase a = false ∨ unaryB op = false ∧ inBase b = false := by
  cases hl : logicB op
  · have ta : takesB op a = inBase a := by rw [takesB, if_neg (by simp [hl])]
    have tb : takesB op b = inBase b := by rw [takesB, if_neg (by simp [hl])]
    rw [applyHas, ta, tb] at h
    cases h1 : opHas op b
    · simp
    · cases h2 : inBase (wrapV op a b)
      · simp
      · cases h3 : inBase a
        · simp
        · cases h4 : unaryB op
          · cases h5 : inBase b
            · simp
            · simp [h1, h2, h3, h4, h5] at h
          · simp [h1, h2, h3, h4] at h
  · simp

theorem agrees_no_13 (a b : Int) (w : World) (L : Laid w) (h : applyHas 13 a b = false) :
    Calls Tryd.prog 7 #[.int .u8 13, .int .i64 a, .int .i64 b] w (Gives w (.bool true)) := by
  have e2 := h
  have e1 := applyV_no h
  have h0 : (0 : Int) ≤ 13 := by omega
  clear h
  cases h1 : opHas 13 b
  all_goals cases h2 : inBase (wrapV 13 a b)
  all_goals cases h3 : inBase a
  all_goals cases h4 : inBase b
  all_goals
    go_enter Tryd.func7, Tryd.ntmps7
    go_wp2_with (first
    | (go_at_call 12; refine (apply_any _ _ _ h0 _ (by assumption)).mono ?_; rw [e1, e2]; rintro e w' ⟨rfl, hb⟩; have hL := Laid.after (by assumption) hb)
    | (go_at_call 17; refine (wrap_any _ _ _ h0 _).mono ?_; rintro e w' ⟨rfl, hb⟩; have hL := Laid.after (by assumption) hb)
    | (go_at_call 14; refine (in_any _ _).mono ?_; rintro e w' ⟨rfl, hb⟩; have hL := Laid.after (by assumption) hb)
    | (go_at_call 16; refine (head_true _ (by assumption)).mono ?_; rintro e w' ⟨rfl, hb⟩))
    go_returns
    exact ⟨rfl, by (repeat' (first | (with_reducible exact Below.refl _ _) | (with_reducible assumption) | (with_reducible refine boxed ?_ _) | (with_reducible refine Below.drew ?_) | (with_reducible refine after ?_ (by assumption))))⟩

theorem agrees_no_14 (a b : Int) (w : World) (L : Laid w) (h : applyHas 14 a b = false) :
    Calls Tryd.prog 7 #[.int .u8 14, .int .i64 a, .int .i64 b] w (Gives w (.bool true)) := by
  have e2 := h
  have e1 := applyV_no h
  have h0 : (0 : Int) ≤ 14 := by omega
  clear h
  cases h1 : opHas 14 b
  all_goals cases h2 : inBase (wrapV 14 a b)
  all_goals cases h3 : inBase a
  all_goals cases h4 : inBase b
  all_goals
    go_enter Tryd.func7, Tryd.ntmps7
    go_wp2_with (first
    | (go_at_call 12; refine (apply_any _ _ _ h0 _ (by assumption)).mono ?_; rw [e1, e2]; rintro e w' ⟨rfl, hb⟩; have hL := Laid.after (by assumption) hb)
    | (go_at_call 17; refine (wrap_any _ _ _ h0 _).mono ?_; rintro e w' ⟨rfl, hb⟩; have hL := Laid.after (by assumption) hb)
    | (go_at_call 14; refine (in_any _ _).mono ?_; rintro e w' ⟨rfl, hb⟩; have hL := Laid.after (by assumption) hb)
    | (go_at_call 16; refine (head_true _ (by assumption)).mono ?_; rintro e w' ⟨rfl, hb⟩))
    go_returns
    exact ⟨rfl, by (repeat' (first | (with_reducible exact Below.refl _ _) | (with_reducible assumption) | (with_reducible refine boxed ?_ _) | (with_reducible refine Below.drew ?_) | (with_reducible refine after ?_ (by assumption))))⟩

theorem agrees_no_15 (a b : Int) (w : World) (L : Laid w) (h : applyHas 15 a b = false) :
    Calls Tryd.prog 7 #[.int .u8 15, .int .i64 a, .int .i64 b] w (Gives w (.bool true)) := by
  have e2 := h
  have e1 := applyV_no h
  have h0 : (0 : Int) ≤ 15 := by omega
  clear h
  cases h1 : opHas 15 b
  all_goals cases h2 : inBase (wrapV 15 a b)
  all_goals cases h3 : inBase a
  all_goals cases h4 : inBase b
  all_goals
    go_enter Tryd.func7, Tryd.ntmps7
    go_wp2_with (first
    | (go_at_call 12; refine (apply_any _ _ _ h0 _ (by assumption)).mono ?_; rw [e1, e2]; rintro e w' ⟨rfl, hb⟩; have hL := Laid.after (by assumption) hb)
    | (go_at_call 17; refine (wrap_any _ _ _ h0 _).mono ?_; rintro e w' ⟨rfl, hb⟩; have hL := Laid.after (by assumption) hb)
    | (go_at_call 14; refine (in_any _ _).mono ?_; rintro e w' ⟨rfl, hb⟩; have hL := Laid.after (by assumption) hb)
    | (go_at_call 16; refine (head_true _ (by assumption)).mono ?_; rintro e w' ⟨rfl, hb⟩))
    go_returns
    exact ⟨rfl, by (repeat' (first | (with_reducible exact Below.refl _ _) | (with_reducible assumption) | (with_reducible refine boxed ?_ _) | (with_reducible refine Below.drew ?_) | (with_reducible refine after ?_ (by assumption))))⟩

theorem agrees_no_18 (a b : Int) (w : World) (L : Laid w) (h : applyHas 18 a b = false) :
    Calls Tryd.prog 7 #[.int .u8 18, .int .i64 a, .int .i64 b] w (Gives w (.bool true)) := by
  have e2 := h
  have e1 := applyV_no h
  have h0 : (0 : Int) ≤ 18 := by omega
  clear h
  cases h1 : opHas 18 b
  all_goals cases h2 : inBase (wrapV 18 a b)
  all_goals cases h3 : inBase a
  all_goals cases h4 : inBase b
  all_goals
    go_enter Tryd.func7, Tryd.ntmps7
    go_wp2_with (first
    | (go_at_call 12; refine (apply_any _ _ _ h0 _ (by assumption)).mono ?_; rw [e1, e2]; rintro e w' ⟨rfl, hb⟩; have hL := Laid.after (by assumption) hb)
    | (go_at_call 17; refine (wrap_any _ _ _ h0 _).mono ?_; rintro e w' ⟨rfl, hb⟩; have hL := Laid.after (by assumption) hb)
    | (go_at_call 14; refine (in_any _ _).mono ?_; rintro e w' ⟨rfl, hb⟩; have hL := Laid.after (by assumption) hb)
    | (go_at_call 16; refine (head_true _ (by assumption)).mono ?_; rintro e w' ⟨rfl, hb⟩))
    go_returns
    exact ⟨rfl, by (repeat' (first | (with_reducible exact Below.refl _ _) | (with_reducible assumption) | (with_reducible refine boxed ?_ _) | (with_reducible refine Below.drew ?_) | (with_reducible refine after ?_ (by assumption))))⟩

set_option maxHeartbeats 1000000 in
theorem agrees_no_two (op a b : Int) (w : World) (L : Laid w) (h0 : 0 ≤ op) (hl : logicB op = false) (hu : unaryB op = false) (h : applyHas op a b = false) :
    Calls Tryd.prog 7 #[.int .u8 op, .int .i64 a, .int .i64 b] w (Gives w (.bool true)) := by
  have e2 := h
  have e1 := applyV_no h
  have hy := Lib.hid (agrees_why h)
  have hl' := of_decide_eq_false hl
  have hu' := of_decide_eq_false hu
  have q13 : (op == 13) = false := by simp; omega
  have q14 : (op == 14) = false := by simp; omega
  have q15 : (op == 15) = false := by simp; omega
  have q18 : (op == 18) = false := by simp; omega
  have q16 : (op == 16) = false := by simp; omega
  have q17 : (op == 17) = false := by simp; omega
  have HL := Lib.hid hl
  have HU := Lib.hid hu
  clear h hl' hu' hl hu
  cases h1 : opHas op b
  all_goals cases h2 : inBase (wrapV op a b)
  all_goals cases h3 : inBase a
  all_goals cases h4 : inBase b
  all_goals first
    | (exfalso; have hx := hy.out; rw [HL.out, HU.out, h1, h2, h3, h4] at hx; simp at hx; done)
    | (go_enter Tryd.func7, Tryd.ntmps7
       go_wp2_with (first
         | (go_at_call 12; refine (apply_any _ _ _ h0 _ (by assumption)).mono ?_; rw [e1, e2]; rintro e w' ⟨rfl, hb⟩; have hL := Laid.after (by assumption) hb)
         | (go_at_call 17; refine (wrap_any _ _ _ h0 _).mono ?_; rintro e w' ⟨rfl, hb⟩; have hL := Laid.after (by assumption) hb)
         | (go_at_call 14; refine (in_any _ _).mono ?_; rintro e w' ⟨rfl, hb⟩; have hL := Laid.after (by assumption) hb)
         | (go_at_call 16; refine (head_true _ (by assumption)).mono ?_; rintro e w' ⟨rfl, hb⟩))
       go_returns
       exact ⟨rfl, by (repeat' (first | (with_reducible exact Below.refl _ _) | (with_reducible assumption) | (with_reducible refine boxed ?_ _) | (with_reducible refine Below.drew ?_) | (with_reducible refine after ?_ (by assumption))))⟩)

theorem agrees_no_16 (a b : Int) (w : World) (L : Laid w) (h : applyHas 16 a b = false) :
    Calls Tryd.prog 7 #[.int .u8 16, .int .i64 a, .int .i64 b] w (Gives w (.bool true)) := by
  have e2 := h
  have e1 := applyV_no h
  have hy := Lib.hid (agrees_why h)
  have h0 : (0 : Int) ≤ 16 := by omega
  have HL : Hid (logicB 16 = false) := by show _ = _; decide
  have HU : Hid (unaryB 16 = true) := by show _ = _; decide
  clear h
  cases h1 : opHas 16 b
  all_goals cases h2 : inBase (wrapV 16 a b)
  all_goals cases h3 : inBase a
  all_goals first
    | (exfalso; have hx := hy.out; rw [HL.out, HU.out, h1, h2, h3] at hx; simp at hx; done)
    | (go_enter Tryd.func7, Tryd.ntmps7
       go_wp2_with (first
         | (go_at_call 12; refine (apply_any _ _ _ h0 _ (by assumption)).mono ?_; rw [e1, e2]; rintro e w' ⟨rfl, hb⟩; have hL := Laid.after (by assumption) hb)
         | (go_at_call 17; refine (wrap_any _ _ _ h0 _).mono ?_; rintro e w' ⟨rfl, hb⟩; have hL := Laid.after (by assumption) hb)
         | (go_at_call 14; refine (in_any _ _).mono ?_; rintro e w' ⟨rfl, hb⟩; have hL := Laid.after (by assumption) hb)
         | (go_at_call 16; refine (head_true _ (by assumption)).mono ?_; rintro e w' ⟨rfl, hb⟩))
       go_returns
       exact ⟨rfl, by (repeat' (first | (with_reducible exact Below.refl _ _) | (with_reducible assumption) | (with_reducible refine boxed ?_ _) | (with_reducible refine Below.drew ?_) | (with_reducible refine after ?_ (by assumption))))⟩)

theorem agrees_no_17 (a b : Int) (w : World) (L : Laid w) (h : applyHas 17 a b = false) :
    Calls Tryd.prog 7 #[.int .u8 17, .int .i64 a, .int .i64 b] w (Gives w (.bool true)) := by
  have e2 := h
  have e1 := applyV_no h
  have hy := Lib.hid (agrees_why h)
  have h0 : (0 : Int) ≤ 17 := by omega
  have HL : Hid (logicB 17 = false) := by show _ = _; decide
  have HU : Hid (unaryB 17 = true) := by show _ = _; decide
  clear h
  cases h1 : opHas 17 b
  all_goals cases h2 : inBase (wrapV 17 a b)
  all_goals cases h3 : inBase a
  all_goals first
    | (exfalso; have hx := hy.out; rw [HL.out, HU.out, h1, h2, h3] at hx; simp at hx; done)
    | (go_enter Tryd.func7, Tryd.ntmps7
       go_wp2_with (first
         | (go_at_call 12; refine (apply_any _ _ _ h0 _ (by assumption)).mono ?_; rw [e1, e2]; rintro e w' ⟨rfl, hb⟩; have hL := Laid.after (by assumption) hb)
         | (go_at_call 17; refine (wrap_any _ _ _ h0 _).mono ?_; rintro e w' ⟨rfl, hb⟩; have hL := Laid.after (by assumption) hb)
         | (go_at_call 14; refine (in_any _ _).mono ?_; rintro e w' ⟨rfl, hb⟩; have hL := Laid.after (by assumption) hb)
         | (go_at_call 16; refine (head_true _ (by assumption)).mono ?_; rintro e w' ⟨rfl, hb⟩))
       go_returns
       exact ⟨rfl, by (repeat' (first | (with_reducible exact Below.refl _ _) | (with_reducible assumption) | (with_reducible refine boxed ?_ _) | (with_reducible refine Below.drew ?_) | (with_reducible refine after ?_ (by assumption))))⟩)

theorem law_numAgrees (op a b : Int) (w : World) (L : Laid w) (ho : 0 ≤ op ∧ op ≤ 255) (_ha : -9223372036854775808 ≤ a ∧ a ≤ 9223372036854775807) (_hb : -9223372036854775808 ≤ b ∧ b ≤ 9223372036854775807) :
    Calls Tryd.prog 7 #[.int .u8 op, .int .i64 a, .int .i64 b] w (Gives w (.bool true)) := by
  cases h : applyHas op a b
  · cases hl : logicB op
    · cases hu : unaryB op
      · exact agrees_no_two op a b w L ho.1 hl hu h
      · have h1 := of_decide_eq_true hu
        have h2 := of_decide_eq_false hl
        rcases (show op = 16 ∨ op = 17 by omega) with rfl | rfl
        · exact agrees_no_16 a b w L h
        · exact agrees_no_17 a b w L h
    · have h2 := of_decide_eq_true hl
      rcases (show op = 13 ∨ op = 14 ∨ op = 15 ∨ op = 18 by omega) with rfl | rfl | rfl | rfl
      · exact agrees_no_13 a b w L h
      · exact agrees_no_14 a b w L h
      · exact agrees_no_15 a b w L h
      · exact agrees_no_18 a b w L h
  · exact agrees_yes op a b w L ho.1 h

end Go.Proofs.YtmmplaabgnmkcaaDoor
