
/-
  'telling' for every operator; the function of an operator as a letter; 'Range' of package num.
-/
import Derived.Test.YtdbfaekdkjclcaaDoorNumTr
import Derived.Test.YtdbfaekdkjclcaaDoorNumMo
namespace Go.Proofs.YtdbfaekdkjclcaaDoor
open Go Go.RowKit

/-- Which function stands for an operator. -/
def fnOf (op : Int) : Nat :=
  if op = 1 then 72 else
  if op = 2 then 68 else
  if op = 3 then 73 else
  if op = 4 then 74 else
  if op = 5 then 75 else
  if op = 6 then 76 else
  if op = 7 then 57 else
  if op = 8 then 59 else
  if op = 9 then 60 else
  if op = 10 then 61 else
  if op = 11 then 62 else
  if op = 12 then 63 else
  if op = 13 then 64 else
  if op = 14 then 65 else
  if op = 15 then 66 else
  if op = 16 then 67 else
  if op = 17 then 69 else
  71

theorem find_any (op : Int) (h1 : 1 ≤ op) (h2 : op ≤ 18) (w : World) : Calls Tryd.prog 17 #[.int .u8 op] w (Gives w (.func (.func (fnOf op)) #[] #[])) := by
  rcases op_cases h1 h2 with rfl | rfl | rfl | rfl | rfl | rfl | rfl | rfl | rfl | rfl | rfl | rfl | rfl | rfl | rfl | rfl | rfl | rfl
  · exact find_1 w
  · exact find_2 w
  · exact find_3 w
  · exact find_4 w
  · exact find_5 w
  · exact find_6 w
  · exact find_7 w
  · exact find_8 w
  · exact find_9 w
  · exact find_10 w
  · exact find_11 w
  · exact find_12 w
  · exact find_13 w
  · exact find_14 w
  · exact find_15 w
  · exact find_16 w
  · exact find_17 w
  · exact find_18 w
theorem op_any (op : Int) (h1 : 1 ≤ op) (h2 : op ≤ 18) (a b : Int) (hb : 4 ≤ op ∧ op ≤ 6 → ¬ b = 0) (w : World) : Calls Tryd.prog (fnOf op) #[.int .i64 a, .int .i64 b] w (OpGives w op a b) := by
  rcases op_cases h1 h2 with rfl | rfl | rfl | rfl | rfl | rfl | rfl | rfl | rfl | rfl | rfl | rfl | rfl | rfl | rfl | rfl | rfl | rfl
  · exact op_1 a b w
  · exact op_2 a b w
  · exact op_3 a b w
  · exact op_4 a b (hb (by omega)) w
  · exact op_5 a b (hb (by omega)) w
  · exact op_6 a b (hb (by omega)) w
  · exact op_7 a b w
  · exact op_8 a b w
  · exact op_9 a b w
  · exact op_10 a b w
  · exact op_11 a b w
  · exact op_12 a b w
  · exact op_13 a b w
  · exact op_14 a b w
  · exact op_15 a b w
  · exact op_16 a b w
  · exact op_17 a b w
  · exact op_18 a b w
theorem enters_any (op : Int) (h1 : 1 ≤ op) (h2 : op ≤ 18) : Enters (fnOf op) := by
  rcases op_cases h1 h2 with rfl | rfl | rfl | rfl | rfl | rfl | rfl | rfl | rfl | rfl | rfl | rfl | rfl | rfl | rfl | rfl | rfl | rfl
  · exact fun args w => by kernel_rfl
  · exact fun args w => by kernel_rfl
  · exact fun args w => by kernel_rfl
  · exact fun args w => by kernel_rfl
  · exact fun args w => by kernel_rfl
  · exact fun args w => by kernel_rfl
  · exact fun args w => by kernel_rfl
  · exact fun args w => by kernel_rfl
  · exact fun args w => by kernel_rfl
  · exact fun args w => by kernel_rfl
  · exact fun args w => by kernel_rfl
  · exact fun args w => by kernel_rfl
  · exact fun args w => by kernel_rfl
  · exact fun args w => by kernel_rfl
  · exact fun args w => by kernel_rfl
  · exact fun args w => by kernel_rfl
  · exact fun args w => by kernel_rfl
  · exact fun args w => by kernel_rfl

def tellX (op a b c d : Int) : List Int :=
  if op = 17 then (if hasB a b 0 = true then [a, b, 0] else [a, b]) else if 7 ≤ op ∧ op ≤ 12 then (if min b d < max a c then [a, b] else [a, b, max a c]) else [a, b]
def tellY (op a b c d : Int) : List Int :=
  if op = 4 then divL c d else if 7 ≤ op ∧ op ≤ 12 then (if min b d < max a c then [c, d] else [c, d, max a c]) else [c, d]

theorem telling_any (op a b c d : Int) (w : World) (L : Laid w) (hne : op = 4 → divL c d ≠ []) :
    Calls Tryd.prog 24 #[.int .u8 op, .agg #[.int .i64 a, .int .i64 b], .agg #[.int .i64 c, .int .i64 d]] w (Tells w (tellX op a b c d) (tellY op a b c d)) := by
  by_cases h4 : op = 4
  · subst h4
    exact telling_div a b c d w L (hne rfl)
  · by_cases h17 : op = 17
    · subst h17
      cases h0 : hasB a b 0
      · have e : tellX 17 a b c d = [a, b] := by simp [tellX, h0]
        rw [e]
        exact telling_plain 17 a b c d w (by omega) (fun _ => h0) (by omega)
      · have e : tellX 17 a b c d = [a, b, 0] := by simp [tellX, h0]
        rw [e]
        exact telling_abs a b c d w h0
    · by_cases hr : 7 ≤ op ∧ op ≤ 12
      · by_cases he : min b d < max a c
        · have e1 : tellX op a b c d = [a, b] := by rw [tellX, if_neg h17, if_pos hr, if_pos he]
          have e2 : tellY op a b c d = [c, d] := by rw [tellY, if_neg h4, if_pos hr, if_pos he]
          rw [e1, e2]
          exact telling_apart op a b c d w L hr.1 hr.2 he
        · have e1 : tellX op a b c d = [a, b, max a c] := by rw [tellX, if_neg h17, if_pos hr, if_neg he]
          have e2 : tellY op a b c d = [c, d, max a c] := by rw [tellY, if_neg h4, if_pos hr, if_neg he]
          rw [e1, e2]
          exact telling_meets op a b c d w L hr.1 hr.2 he
      · have e1 : tellX op a b c d = [a, b] := by rw [tellX, if_neg h17, if_neg hr]
        have e2 : tellY op a b c d = [c, d] := by rw [tellY, if_neg h4, if_neg hr]
        rw [e1, e2]
        exact telling_plain op a b c d w h4 (fun h => absurd h h17) hr

theorem tellX_len (op a b c d : Int) : 1 ≤ (tellX op a b c d).length ∧ (tellX op a b c d).length ≤ 4 := by
  unfold tellX
  repeat' split
  all_goals simp
theorem divL_len (c d : Int) : (divL c d).length ≤ 4 := by
  unfold divL
  split <;> split <;> simp
theorem tellY_len (op a b c d : Int) (hne : op = 4 → divL c d ≠ []) : 1 ≤ (tellY op a b c d).length ∧ (tellY op a b c d).length ≤ 4 := by
  unfold tellY
  split
  · rename_i h
    refine ⟨?_, divL_len c d⟩
    have := hne h
    cases e : divL c d with
    | nil => exact absurd e this
    | cons _ _ => simp
  · repeat' split
    all_goals simp
theorem divL_some {c d : Int} (hc : I64 c) (hd : I64 d) (h : ¬ d < c) (hz : ¬ (c = 0 ∧ d = 0)) : divL c d ≠ [] := by
  obtain ⟨c1, c2⟩ := hc
  obtain ⟨d1, d2⟩ := hd
  unfold divL
  by_cases h1 : c < 0
  · rw [if_neg (by omega)]; simp
  · rw [if_neg (c := min d 9223372036854775807 < max c 1) (by omega)]; simp

def rangeV (op a b c d : Int) : Value :=
  if ¬ (1 ≤ op ∧ op ≤ 18) ∨ b < a ∨ (unaryB op = false ∧ d < c) then iv 1 0
  else if (4 ≤ op ∧ op ≤ 6) ∧ c = 0 ∧ d = 0 then iv 1 0
  else if op = 5 then remV a b c d else if op = 6 then modIV a b c d
  else if (13 ≤ op ∧ op ≤ 15) ∧ ¬ (liesB a b 0 1 = true ∧ liesB c d 0 1 = true) then iv (-9223372036854775808) 9223372036854775807
  else hullV op (tellX op a b c d) (tellY op a b c d)

theorem hull_iv (op : Int) (xs ys : List Int) : ∃ x y, hullV op xs ys = .agg #[.int .i64 x, .int .i64 y] := by
  unfold hullV
  split <;> exact ⟨_, _, rfl⟩

/-- WHAT Range's OWN BLOCKS HOLD in a world behind a call: both arguments, the result. -/
structure RBox (w : World) (a b c d : Int) (W : World) : Prop where
  b0 : W.cell? ⟨w.heap.size, 0, none⟩ = some (.int .i64 a)
  b1 : W.cell? ⟨w.heap.size, 1, none⟩ = some (.int .i64 b)
  c0 : W.cell? ⟨w.heap.size + 1, 0, none⟩ = some (.int .i64 c)
  c1 : W.cell? ⟨w.heap.size + 1, 1, none⟩ = some (.int .i64 d)
  r0 : W.cell? ⟨w.heap.size + 1 + 1, 0, none⟩ = some (.int .i64 0)
  r1 : W.cell? ⟨w.heap.size + 1 + 1, 1, none⟩ = some (.int .i64 0)
  q0 : W.frozen? ⟨w.heap.size + 1 + 1, 0, none⟩ = false
  q1 : W.frozen? ⟨w.heap.size + 1 + 1, 1, none⟩ = false
  bel : Below w.heap.size w W
  lad : Laid W
theorem RBox.below {w : World} {a b c d : Int} {W w1 : World} (h : RBox w a b c d W) (hb : Below W.heap.size W w1) : RBox w a b c d w1 :=
  ⟨keepC hb h.b0, keepC hb h.b1, keepC hb h.c0, keepC hb h.c1, keepC hb h.r0, keepC hb h.r1, keepF hb h.r0 h.q0, keepF hb h.r1 h.q1, after h.bel hb, h.lad.after hb⟩
theorem RBox.start (w : World) (a b c d : Int) (L : Laid w) : RBox w a b c d (((w.alloc (.cells #[.int .i64 a, .int .i64 b] 24)).alloc (.cells #[.int .i64 c, .int .i64 d] 24)).alloc (.cells #[.int .i64 0, .int .i64 0] 24)) :=
  ⟨by go_cell, by go_cell, by go_cell, by go_cell, by go_cell, by go_cell, by go_cell, by go_cell, by go_grown, L.after (by go_grown)⟩

set_option maxHeartbeats 1000000 in
theorem range_no (op a b c d : Int) (w : World) (L : Laid w) (h : op = 0 ∨ 19 ≤ op) : Calls Tryd.prog 7 #[.int .u8 op, .agg #[.int .i64 a, .int .i64 b], .agg #[.int .i64 c, .int .i64 d]] w (Gives w (iv 1 0)) := by
  have en := func_is_nil
  have R0 := Lib.hid (RBox.start w a b c d L)
  have enn := nil_is_nil
  clear L
  go_enter Tryd.func7, Tryd.ntmps7
  go_wp2_with fail
  refine (find_no op h _).mono ?_; rintro e w1 ⟨rfl, hb⟩
  have R1 := Lib.hid (R0.out.below hb)
  clear hb
  obtain ⟨b0, b1, c0, c1, r0, r1, q0, q1, _, lad⟩ := R1.out
  have n0 := lad.n0
  have n1 := lad.n1
  clear lad
  go_wp2_with fail
  refine bodyPost_ret (v := .agg #[.int .i64 1, .int .i64 0]) (by simp [results, Tryd.results7, go_sem, *]) rfl ⟨rfl, Below.setCell (Below.setCell R1.out.bel (by show w.heap.size ≤ w.heap.size + 1 + 1; omega) _) (by show w.heap.size ≤ w.heap.size + 1 + 1; omega) _⟩

set_option maxHeartbeats 1000000 in
theorem range_empty (op a b c d : Int) (w : World) (L : Laid w) (h1 : 1 ≤ op) (h2 : op ≤ 18) (hab : b < a) : Calls Tryd.prog 7 #[.int .u8 op, .agg #[.int .i64 a, .int .i64 b], .agg #[.int .i64 c, .int .i64 d]] w (Gives w (iv 1 0)) := by
  have en := func_is_nil
  have R0 := Lib.hid (RBox.start w a b c d L)
  have e1 : decide (b < a) = true := by simpa using hab
  clear hab
  clear L
  go_enter Tryd.func7, Tryd.ntmps7
  go_wp2_with fail
  refine (find_any op h1 h2 _).mono ?_; rintro e w1 ⟨rfl, hb⟩
  have R1 := Lib.hid (R0.out.below hb)
  clear hb
  obtain ⟨b0, b1, c0, c1, r0, r1, q0, q1, _, lad⟩ := R1.out
  have n0 := lad.n0
  have n1 := lad.n1
  clear lad
  go_wp2_with fail
  refine (empty_any _ _ _).mono ?_; rintro e w2 ⟨rfl, hb⟩; rw [e1]
  have R2 := Lib.hid (R1.out.below hb)
  clear hb b0 b1 c0 c1 r0 r1 q0 q1 n0 n1
  obtain ⟨b0, b1, c0, c1, r0, r1, q0, q1, _, lad⟩ := R2.out
  have n0 := lad.n0
  have n1 := lad.n1
  clear lad
  go_wp2_with fail
  refine bodyPost_ret (v := .agg #[.int .i64 1, .int .i64 0]) (by simp [results, Tryd.results7, go_sem, *]) rfl ⟨rfl, Below.setCell (Below.setCell R2.out.bel (by show w.heap.size ≤ w.heap.size + 1 + 1; omega) _) (by show w.heap.size ≤ w.heap.size + 1 + 1; omega) _⟩

set_option maxHeartbeats 1000000 in
theorem range_empty2 (op a b c d : Int) (w : World) (L : Laid w) (h1 : 1 ≤ op) (h2 : op ≤ 18) (hab : ¬ b < a) (hu : unaryB op = false) (hcd : d < c) : Calls Tryd.prog 7 #[.int .u8 op, .agg #[.int .i64 a, .int .i64 b], .agg #[.int .i64 c, .int .i64 d]] w (Gives w (iv 1 0)) := by
  have en := func_is_nil
  have R0 := Lib.hid (RBox.start w a b c d L)
  have e1 : decide (b < a) = false := by simpa using hab
  have e2 : decide (d < c) = true := by simpa using hcd
  clear hab hcd
  clear L
  go_enter Tryd.func7, Tryd.ntmps7
  go_wp2_with fail
  refine (find_any op h1 h2 _).mono ?_; rintro e w1 ⟨rfl, hb⟩
  have R1 := Lib.hid (R0.out.below hb)
  clear hb
  obtain ⟨b0, b1, c0, c1, r0, r1, q0, q1, _, lad⟩ := R1.out
  have n0 := lad.n0
  have n1 := lad.n1
  clear lad
  go_wp2_with fail
  refine (empty_any _ _ _).mono ?_; rintro e w2 ⟨rfl, hb⟩; rw [e1]
  have R2 := Lib.hid (R1.out.below hb)
  clear hb b0 b1 c0 c1 r0 r1 q0 q1 n0 n1
  obtain ⟨b0, b1, c0, c1, r0, r1, q0, q1, _, lad⟩ := R2.out
  have n0 := lad.n0
  have n1 := lad.n1
  clear lad
  go_wp2_with fail
  refine (unary_any _ _).mono ?_; rintro e w3 ⟨rfl, hb⟩; rw [hu]
  have R3 := Lib.hid (R2.out.below hb)
  clear hb b0 b1 c0 c1 r0 r1 q0 q1 n0 n1
  obtain ⟨b0, b1, c0, c1, r0, r1, q0, q1, _, lad⟩ := R3.out
  have n0 := lad.n0
  have n1 := lad.n1
  clear lad
  go_wp2_with fail
  refine (empty_any _ _ _).mono ?_; rintro e w4 ⟨rfl, hb⟩; rw [e2]
  have R4 := Lib.hid (R3.out.below hb)
  clear hb b0 b1 c0 c1 r0 r1 q0 q1 n0 n1
  obtain ⟨b0, b1, c0, c1, r0, r1, q0, q1, _, lad⟩ := R4.out
  have n0 := lad.n0
  have n1 := lad.n1
  clear lad
  go_wp2_with fail
  refine bodyPost_ret (v := .agg #[.int .i64 1, .int .i64 0]) (by simp [results, Tryd.results7, go_sem, *]) rfl ⟨rfl, Below.setCell (Below.setCell R4.out.bel (by show w.heap.size ≤ w.heap.size + 1 + 1; omega) _) (by show w.heap.size ≤ w.heap.size + 1 + 1; omega) _⟩

set_option maxHeartbeats 1000000 in
theorem range_zero (op a b c d : Int) (w : World) (L : Laid w) (h1 : 1 ≤ op) (h2 : op ≤ 18) (hab : ¬ b < a) (hu : unaryB op = false) (hcd : ¬ d < c) (h4 : 4 ≤ op) (h6 : op ≤ 6) (hc : c = 0) (hd : d = 0) : Calls Tryd.prog 7 #[.int .u8 op, .agg #[.int .i64 a, .int .i64 b], .agg #[.int .i64 c, .int .i64 d]] w (Gives w (iv 1 0)) := by
  have en := func_is_nil
  have R0 := Lib.hid (RBox.start w a b c d L)
  have e1 : decide (b < a) = false := by simpa using hab
  have e2 : decide (d < c) = false := by simpa using hcd
  have hd' : decide (4 ≤ op ∧ op ≤ 6) = true := by simpa using ⟨h4, h6⟩
  subst hc hd
  clear hab hcd
  clear L
  go_enter Tryd.func7, Tryd.ntmps7
  go_wp2_with fail
  refine (find_any op h1 h2 _).mono ?_; rintro e w1 ⟨rfl, hb⟩
  have R1 := Lib.hid (R0.out.below hb)
  clear hb
  obtain ⟨b0, b1, c0, c1, r0, r1, q0, q1, _, lad⟩ := R1.out
  have n0 := lad.n0
  have n1 := lad.n1
  clear lad
  go_wp2_with fail
  refine (empty_any _ _ _).mono ?_; rintro e w2 ⟨rfl, hb⟩; rw [e1]
  have R2 := Lib.hid (R1.out.below hb)
  clear hb b0 b1 c0 c1 r0 r1 q0 q1 n0 n1
  obtain ⟨b0, b1, c0, c1, r0, r1, q0, q1, _, lad⟩ := R2.out
  have n0 := lad.n0
  have n1 := lad.n1
  clear lad
  go_wp2_with fail
  refine (unary_any _ _).mono ?_; rintro e w3 ⟨rfl, hb⟩; rw [hu]
  have R3 := Lib.hid (R2.out.below hb)
  clear hb b0 b1 c0 c1 r0 r1 q0 q1 n0 n1
  obtain ⟨b0, b1, c0, c1, r0, r1, q0, q1, _, lad⟩ := R3.out
  have n0 := lad.n0
  have n1 := lad.n1
  clear lad
  go_wp2_with fail
  refine (empty_any _ _ _).mono ?_; rintro e w4 ⟨rfl, hb⟩; rw [e2]
  have R4 := Lib.hid (R3.out.below hb)
  clear hb b0 b1 c0 c1 r0 r1 q0 q1 n0 n1
  obtain ⟨b0, b1, c0, c1, r0, r1, q0, q1, _, lad⟩ := R4.out
  have n0 := lad.n0
  have n1 := lad.n1
  clear lad
  go_wp2_with fail
  refine (divides_any _ _).mono ?_; rintro e w5 ⟨rfl, hb⟩; rw [hd']
  have R5 := Lib.hid (R4.out.below hb)
  clear hb b0 b1 c0 c1 r0 r1 q0 q1 n0 n1
  obtain ⟨b0, b1, c0, c1, r0, r1, q0, q1, _, lad⟩ := R5.out
  have n0 := lad.n0
  have n1 := lad.n1
  clear lad
  go_wp2_with fail
  refine bodyPost_ret (v := .agg #[.int .i64 1, .int .i64 0]) (by simp [results, Tryd.results7, go_sem, *]) rfl ⟨rfl, Below.setCell (Below.setCell R5.out.bel (by show w.heap.size ≤ w.heap.size + 1 + 1; omega) _) (by show w.heap.size ≤ w.heap.size + 1 + 1; omega) _⟩

set_option maxHeartbeats 1000000 in
theorem range_rem_z (op a b c d : Int) (w : World) (L : Laid w) (hk : op = 5) (hc' : I64 c) (hd' : I64 d) (hab : ¬ b < a) (hcd : ¬ d < c) (hz : c = 0) (hz2 : ¬ d = 0) : Calls Tryd.prog 7 #[.int .u8 op, .agg #[.int .i64 a, .int .i64 b], .agg #[.int .i64 c, .int .i64 d]] w (Gives w (remV a b c d)) := by
  have en := func_is_nil
  have R0 := Lib.hid (RBox.start w a b c d L)
  have e1 : decide (b < a) = false := by simpa using hab
  have e2 : decide (d < c) = false := by simpa using hcd
  subst hk
  have h1 : (1 : Int) ≤ 5 := by omega
  have h2 : (5 : Int) ≤ 18 := by omega
  have hu : unaryB 5 = false := by decide
  have hd0 : decide ((4 : Int) ≤ 5 ∧ (5 : Int) ≤ 6) = true := by decide
  have hc := Lib.hid hc'
  have hd := Lib.hid hd'
  obtain ⟨x, y, hxy⟩ : ∃ x y, remV a b c d = .agg #[.int .i64 x, .int .i64 y] := ⟨_, _, rfl⟩
  have HXY := Lib.hid hxy
  clear hab hcd hc' hd' hxy
  subst hz
  clear L
  go_enter Tryd.func7, Tryd.ntmps7
  go_wp2_with fail
  refine (find_any 5 h1 h2 _).mono ?_; rintro e w1 ⟨rfl, hb⟩
  have R1 := Lib.hid (R0.out.below hb)
  clear hb
  obtain ⟨b0, b1, c0, c1, r0, r1, q0, q1, _, lad⟩ := R1.out
  have n0 := lad.n0
  have n1 := lad.n1
  clear lad
  go_wp2_with fail
  refine (empty_any _ _ _).mono ?_; rintro e w2 ⟨rfl, hb⟩; rw [e1]
  have R2 := Lib.hid (R1.out.below hb)
  clear hb b0 b1 c0 c1 r0 r1 q0 q1 n0 n1
  obtain ⟨b0, b1, c0, c1, r0, r1, q0, q1, _, lad⟩ := R2.out
  have n0 := lad.n0
  have n1 := lad.n1
  clear lad
  go_wp2_with fail
  refine (unary_any _ _).mono ?_; rintro e w3 ⟨rfl, hb⟩; rw [hu]
  have R3 := Lib.hid (R2.out.below hb)
  clear hb b0 b1 c0 c1 r0 r1 q0 q1 n0 n1
  obtain ⟨b0, b1, c0, c1, r0, r1, q0, q1, _, lad⟩ := R3.out
  have n0 := lad.n0
  have n1 := lad.n1
  clear lad
  go_wp2_with fail
  refine (empty_any _ _ _).mono ?_; rintro e w4 ⟨rfl, hb⟩; rw [e2]
  have R4 := Lib.hid (R3.out.below hb)
  clear hb b0 b1 c0 c1 r0 r1 q0 q1 n0 n1
  obtain ⟨b0, b1, c0, c1, r0, r1, q0, q1, _, lad⟩ := R4.out
  have n0 := lad.n0
  have n1 := lad.n1
  clear lad
  go_wp2_with fail
  refine (divides_any _ _).mono ?_; rintro e w5 ⟨rfl, hb⟩; rw [hd0]
  have R5 := Lib.hid (R4.out.below hb)
  clear hb b0 b1 c0 c1 r0 r1 q0 q1 n0 n1
  obtain ⟨b0, b1, c0, c1, r0, r1, q0, q1, _, lad⟩ := R5.out
  have n0 := lad.n0
  have n1 := lad.n1
  clear lad
  go_wp2_with fail
  refine (remainders_any _ _ _ _ _ hc.out hd.out).mono ?_
  rw [HXY.out]
  rintro e w6 ⟨rfl, hb⟩
  have R6 := Lib.hid (R5.out.below hb)
  clear hb b0 b1 c0 c1 r0 r1 q0 q1 n0 n1
  obtain ⟨b0, b1, c0, c1, r0, r1, q0, q1, _, _⟩ := R6.out
  go_wp2_with fail
  refine bodyPost_ret (v := .agg #[.int .i64 x, .int .i64 y]) (by simp [results, Tryd.results7, go_sem, *]) rfl ⟨by rw [HXY.out], Below.setCell (Below.setCell R6.out.bel (by show w.heap.size ≤ w.heap.size + 1 + 1; omega) _) (by show w.heap.size ≤ w.heap.size + 1 + 1; omega) _⟩

set_option maxHeartbeats 1000000 in
theorem range_rem_n (op a b c d : Int) (w : World) (L : Laid w) (hk : op = 5) (hc' : I64 c) (hd' : I64 d) (hab : ¬ b < a) (hcd : ¬ d < c) (hz : ¬ c = 0) : Calls Tryd.prog 7 #[.int .u8 op, .agg #[.int .i64 a, .int .i64 b], .agg #[.int .i64 c, .int .i64 d]] w (Gives w (remV a b c d)) := by
  have en := func_is_nil
  have R0 := Lib.hid (RBox.start w a b c d L)
  have e1 : decide (b < a) = false := by simpa using hab
  have e2 : decide (d < c) = false := by simpa using hcd
  subst hk
  have h1 : (1 : Int) ≤ 5 := by omega
  have h2 : (5 : Int) ≤ 18 := by omega
  have hu : unaryB 5 = false := by decide
  have hd0 : decide ((4 : Int) ≤ 5 ∧ (5 : Int) ≤ 6) = true := by decide
  have hc := Lib.hid hc'
  have hd := Lib.hid hd'
  obtain ⟨x, y, hxy⟩ : ∃ x y, remV a b c d = .agg #[.int .i64 x, .int .i64 y] := ⟨_, _, rfl⟩
  have HXY := Lib.hid hxy
  clear hab hcd hc' hd' hxy
  clear L
  go_enter Tryd.func7, Tryd.ntmps7
  go_wp2_with fail
  refine (find_any 5 h1 h2 _).mono ?_; rintro e w1 ⟨rfl, hb⟩
  have R1 := Lib.hid (R0.out.below hb)
  clear hb
  obtain ⟨b0, b1, c0, c1, r0, r1, q0, q1, _, lad⟩ := R1.out
  have n0 := lad.n0
  have n1 := lad.n1
  clear lad
  go_wp2_with fail
  refine (empty_any _ _ _).mono ?_; rintro e w2 ⟨rfl, hb⟩; rw [e1]
  have R2 := Lib.hid (R1.out.below hb)
  clear hb b0 b1 c0 c1 r0 r1 q0 q1 n0 n1
  obtain ⟨b0, b1, c0, c1, r0, r1, q0, q1, _, lad⟩ := R2.out
  have n0 := lad.n0
  have n1 := lad.n1
  clear lad
  go_wp2_with fail
  refine (unary_any _ _).mono ?_; rintro e w3 ⟨rfl, hb⟩; rw [hu]
  have R3 := Lib.hid (R2.out.below hb)
  clear hb b0 b1 c0 c1 r0 r1 q0 q1 n0 n1
  obtain ⟨b0, b1, c0, c1, r0, r1, q0, q1, _, lad⟩ := R3.out
  have n0 := lad.n0
  have n1 := lad.n1
  clear lad
  go_wp2_with fail
  refine (empty_any _ _ _).mono ?_; rintro e w4 ⟨rfl, hb⟩; rw [e2]
  have R4 := Lib.hid (R3.out.below hb)
  clear hb b0 b1 c0 c1 r0 r1 q0 q1 n0 n1
  obtain ⟨b0, b1, c0, c1, r0, r1, q0, q1, _, lad⟩ := R4.out
  have n0 := lad.n0
  have n1 := lad.n1
  clear lad
  go_wp2_with fail
  refine (divides_any _ _).mono ?_; rintro e w5 ⟨rfl, hb⟩; rw [hd0]
  have R5 := Lib.hid (R4.out.below hb)
  clear hb b0 b1 c0 c1 r0 r1 q0 q1 n0 n1
  obtain ⟨b0, b1, c0, c1, r0, r1, q0, q1, _, lad⟩ := R5.out
  have n0 := lad.n0
  have n1 := lad.n1
  clear lad
  go_wp2_with fail
  refine (remainders_any _ _ _ _ _ hc.out hd.out).mono ?_
  rw [HXY.out]
  rintro e w6 ⟨rfl, hb⟩
  have R6 := Lib.hid (R5.out.below hb)
  clear hb b0 b1 c0 c1 r0 r1 q0 q1 n0 n1
  obtain ⟨b0, b1, c0, c1, r0, r1, q0, q1, _, _⟩ := R6.out
  go_wp2_with fail
  refine bodyPost_ret (v := .agg #[.int .i64 x, .int .i64 y]) (by simp [results, Tryd.results7, go_sem, *]) rfl ⟨by rw [HXY.out], Below.setCell (Below.setCell R6.out.bel (by show w.heap.size ≤ w.heap.size + 1 + 1; omega) _) (by show w.heap.size ≤ w.heap.size + 1 + 1; omega) _⟩

set_option maxHeartbeats 1000000 in
theorem range_mod_z (op a b c d : Int) (w : World) (L : Laid w) (hk : op = 6) (hc' : I64 c) (hd' : I64 d) (hab : ¬ b < a) (hcd : ¬ d < c) (hz : c = 0) (hz2 : ¬ d = 0) : Calls Tryd.prog 7 #[.int .u8 op, .agg #[.int .i64 a, .int .i64 b], .agg #[.int .i64 c, .int .i64 d]] w (Gives w (modIV a b c d)) := by
  have en := func_is_nil
  have R0 := Lib.hid (RBox.start w a b c d L)
  have e1 : decide (b < a) = false := by simpa using hab
  have e2 : decide (d < c) = false := by simpa using hcd
  subst hk
  have h1 : (1 : Int) ≤ 6 := by omega
  have h2 : (6 : Int) ≤ 18 := by omega
  have hu : unaryB 6 = false := by decide
  have hd0 : decide ((4 : Int) ≤ 6 ∧ (6 : Int) ≤ 6) = true := by decide
  have hc := Lib.hid hc'
  have hd := Lib.hid hd'
  obtain ⟨x, y, hxy⟩ : ∃ x y, modIV a b c d = .agg #[.int .i64 x, .int .i64 y] := ⟨_, _, rfl⟩
  have HXY := Lib.hid hxy
  clear hab hcd hc' hd' hxy
  subst hz
  clear L
  go_enter Tryd.func7, Tryd.ntmps7
  go_wp2_with fail
  refine (find_any 6 h1 h2 _).mono ?_; rintro e w1 ⟨rfl, hb⟩
  have R1 := Lib.hid (R0.out.below hb)
  clear hb
  obtain ⟨b0, b1, c0, c1, r0, r1, q0, q1, _, lad⟩ := R1.out
  have n0 := lad.n0
  have n1 := lad.n1
  clear lad
  go_wp2_with fail
  refine (empty_any _ _ _).mono ?_; rintro e w2 ⟨rfl, hb⟩; rw [e1]
  have R2 := Lib.hid (R1.out.below hb)
  clear hb b0 b1 c0 c1 r0 r1 q0 q1 n0 n1
  obtain ⟨b0, b1, c0, c1, r0, r1, q0, q1, _, lad⟩ := R2.out
  have n0 := lad.n0
  have n1 := lad.n1
  clear lad
  go_wp2_with fail
  refine (unary_any _ _).mono ?_; rintro e w3 ⟨rfl, hb⟩; rw [hu]
  have R3 := Lib.hid (R2.out.below hb)
  clear hb b0 b1 c0 c1 r0 r1 q0 q1 n0 n1
  obtain ⟨b0, b1, c0, c1, r0, r1, q0, q1, _, lad⟩ := R3.out
  have n0 := lad.n0
  have n1 := lad.n1
  clear lad
  go_wp2_with fail
  refine (empty_any _ _ _).mono ?_; rintro e w4 ⟨rfl, hb⟩; rw [e2]
  have R4 := Lib.hid (R3.out.below hb)
  clear hb b0 b1 c0 c1 r0 r1 q0 q1 n0 n1
  obtain ⟨b0, b1, c0, c1, r0, r1, q0, q1, _, lad⟩ := R4.out
  have n0 := lad.n0
  have n1 := lad.n1
  clear lad
  go_wp2_with fail
  refine (divides_any _ _).mono ?_; rintro e w5 ⟨rfl, hb⟩; rw [hd0]
  have R5 := Lib.hid (R4.out.below hb)
  clear hb b0 b1 c0 c1 r0 r1 q0 q1 n0 n1
  obtain ⟨b0, b1, c0, c1, r0, r1, q0, q1, _, lad⟩ := R5.out
  have n0 := lad.n0
  have n1 := lad.n1
  clear lad
  go_wp2_with fail
  refine (moduli_any _ _ _ _ _ hc.out hd.out).mono ?_
  rw [HXY.out]
  rintro e w6 ⟨rfl, hb⟩
  have R6 := Lib.hid (R5.out.below hb)
  clear hb b0 b1 c0 c1 r0 r1 q0 q1 n0 n1
  obtain ⟨b0, b1, c0, c1, r0, r1, q0, q1, _, _⟩ := R6.out
  go_wp2_with fail
  refine bodyPost_ret (v := .agg #[.int .i64 x, .int .i64 y]) (by simp [results, Tryd.results7, go_sem, *]) rfl ⟨by rw [HXY.out], Below.setCell (Below.setCell R6.out.bel (by show w.heap.size ≤ w.heap.size + 1 + 1; omega) _) (by show w.heap.size ≤ w.heap.size + 1 + 1; omega) _⟩

set_option maxHeartbeats 1000000 in
theorem range_mod_n (op a b c d : Int) (w : World) (L : Laid w) (hk : op = 6) (hc' : I64 c) (hd' : I64 d) (hab : ¬ b < a) (hcd : ¬ d < c) (hz : ¬ c = 0) : Calls Tryd.prog 7 #[.int .u8 op, .agg #[.int .i64 a, .int .i64 b], .agg #[.int .i64 c, .int .i64 d]] w (Gives w (modIV a b c d)) := by
  have en := func_is_nil
  have R0 := Lib.hid (RBox.start w a b c d L)
  have e1 : decide (b < a) = false := by simpa using hab
  have e2 : decide (d < c) = false := by simpa using hcd
  subst hk
  have h1 : (1 : Int) ≤ 6 := by omega
  have h2 : (6 : Int) ≤ 18 := by omega
  have hu : unaryB 6 = false := by decide
  have hd0 : decide ((4 : Int) ≤ 6 ∧ (6 : Int) ≤ 6) = true := by decide
  have hc := Lib.hid hc'
  have hd := Lib.hid hd'
  obtain ⟨x, y, hxy⟩ : ∃ x y, modIV a b c d = .agg #[.int .i64 x, .int .i64 y] := ⟨_, _, rfl⟩
  have HXY := Lib.hid hxy
  clear hab hcd hc' hd' hxy
  clear L
  go_enter Tryd.func7, Tryd.ntmps7
  go_wp2_with fail
  refine (find_any 6 h1 h2 _).mono ?_; rintro e w1 ⟨rfl, hb⟩
  have R1 := Lib.hid (R0.out.below hb)
  clear hb
  obtain ⟨b0, b1, c0, c1, r0, r1, q0, q1, _, lad⟩ := R1.out
  have n0 := lad.n0
  have n1 := lad.n1
  clear lad
  go_wp2_with fail
  refine (empty_any _ _ _).mono ?_; rintro e w2 ⟨rfl, hb⟩; rw [e1]
  have R2 := Lib.hid (R1.out.below hb)
  clear hb b0 b1 c0 c1 r0 r1 q0 q1 n0 n1
  obtain ⟨b0, b1, c0, c1, r0, r1, q0, q1, _, lad⟩ := R2.out
  have n0 := lad.n0
  have n1 := lad.n1
  clear lad
  go_wp2_with fail
  refine (unary_any _ _).mono ?_; rintro e w3 ⟨rfl, hb⟩; rw [hu]
  have R3 := Lib.hid (R2.out.below hb)
  clear hb b0 b1 c0 c1 r0 r1 q0 q1 n0 n1
  obtain ⟨b0, b1, c0, c1, r0, r1, q0, q1, _, lad⟩ := R3.out
  have n0 := lad.n0
  have n1 := lad.n1
  clear lad
  go_wp2_with fail
  refine (empty_any _ _ _).mono ?_; rintro e w4 ⟨rfl, hb⟩; rw [e2]
  have R4 := Lib.hid (R3.out.below hb)
  clear hb b0 b1 c0 c1 r0 r1 q0 q1 n0 n1
  obtain ⟨b0, b1, c0, c1, r0, r1, q0, q1, _, lad⟩ := R4.out
  have n0 := lad.n0
  have n1 := lad.n1
  clear lad
  go_wp2_with fail
  refine (divides_any _ _).mono ?_; rintro e w5 ⟨rfl, hb⟩; rw [hd0]
  have R5 := Lib.hid (R4.out.below hb)
  clear hb b0 b1 c0 c1 r0 r1 q0 q1 n0 n1
  obtain ⟨b0, b1, c0, c1, r0, r1, q0, q1, _, lad⟩ := R5.out
  have n0 := lad.n0
  have n1 := lad.n1
  clear lad
  go_wp2_with fail
  refine (moduli_any _ _ _ _ _ hc.out hd.out).mono ?_
  rw [HXY.out]
  rintro e w6 ⟨rfl, hb⟩
  have R6 := Lib.hid (R5.out.below hb)
  clear hb b0 b1 c0 c1 r0 r1 q0 q1 n0 n1
  obtain ⟨b0, b1, c0, c1, r0, r1, q0, q1, _, _⟩ := R6.out
  go_wp2_with fail
  refine bodyPost_ret (v := .agg #[.int .i64 x, .int .i64 y]) (by simp [results, Tryd.results7, go_sem, *]) rfl ⟨by rw [HXY.out], Below.setCell (Below.setCell R6.out.bel (by show w.heap.size ≤ w.heap.size + 1 + 1; omega) _) (by show w.heap.size ≤ w.heap.size + 1 + 1; omega) _⟩

set_option maxHeartbeats 1000000 in
theorem range_div_z (op a b d : Int) (w : World) (L : Laid w) (h1 : 1 ≤ op) (h2 : op ≤ 18) (hk : op = 4) (hab : ¬ b < a) (hcd : ¬ d < 0) (hz2 : ¬ d = 0) (hne : op = 4 → divL 0 d ≠ []) (hf : 4 ≤ op ∧ op ≤ 6 → ∀ v ∈ tellY op a b 0 d, ¬ v = 0) : Calls Tryd.prog 7 #[.int .u8 op, .agg #[.int .i64 a, .int .i64 b], .agg #[.int .i64 0, .int .i64 d]] w (Gives w (hullV op (tellX op a b 0 d) (tellY op a b 0 d))) := by
  have en := func_is_nil
  have R0 := Lib.hid (RBox.start w a b 0 d L)
  have e1 : decide (b < a) = false := by simpa using hab
  have e2 : decide (d < 0) = false := by simpa using hcd
  subst hk
  have hu : unaryB 4 = false := by decide
  have hd0 : decide ((4 : Int) ≤ 4 ∧ (4 : Int) ≤ 6) = true := by decide
  have hl : decide ((13 : Int) ≤ 4 ∧ (4 : Int) ≤ 15) = false := by decide
  clear hab hcd
  have HT := Lib.hid hne
  have HF := Lib.hid hf
  have H1 := Lib.hid h1
  have H2 := Lib.hid h2
  obtain ⟨x, y, hxy⟩ := hull_iv 4 (tellX 4 a b 0 d) (tellY 4 a b 0 d)
  have HXY := Lib.hid hxy
  clear hne hf hxy
  clear L
  go_enter Tryd.func7, Tryd.ntmps7
  go_wp2_with fail
  refine (find_any 4 h1 h2 _).mono ?_; rintro e w1 ⟨rfl, hb⟩
  have R1 := Lib.hid (R0.out.below hb)
  clear hb
  obtain ⟨b0, b1, c0, c1, r0, r1, q0, q1, _, lad⟩ := R1.out
  have n0 := lad.n0
  have n1 := lad.n1
  clear lad
  go_wp2_with fail
  refine (empty_any _ _ _).mono ?_; rintro e w2 ⟨rfl, hb⟩; rw [e1]
  have R2 := Lib.hid (R1.out.below hb)
  clear hb b0 b1 c0 c1 r0 r1 q0 q1 n0 n1
  obtain ⟨b0, b1, c0, c1, r0, r1, q0, q1, _, lad⟩ := R2.out
  have n0 := lad.n0
  have n1 := lad.n1
  clear lad
  go_wp2_with fail
  refine (unary_any _ _).mono ?_; rintro e w3 ⟨rfl, hb⟩; rw [hu]
  have R3 := Lib.hid (R2.out.below hb)
  clear hb b0 b1 c0 c1 r0 r1 q0 q1 n0 n1
  obtain ⟨b0, b1, c0, c1, r0, r1, q0, q1, _, lad⟩ := R3.out
  have n0 := lad.n0
  have n1 := lad.n1
  clear lad
  go_wp2_with fail
  refine (empty_any _ _ _).mono ?_; rintro e w4 ⟨rfl, hb⟩; rw [e2]
  have R4 := Lib.hid (R3.out.below hb)
  clear hb b0 b1 c0 c1 r0 r1 q0 q1 n0 n1
  obtain ⟨b0, b1, c0, c1, r0, r1, q0, q1, _, lad⟩ := R4.out
  have n0 := lad.n0
  have n1 := lad.n1
  clear lad
  go_wp2_with fail
  refine (divides_any _ _).mono ?_; rintro e w5 ⟨rfl, hb⟩; rw [hd0]
  have R5 := Lib.hid (R4.out.below hb)
  clear hb b0 b1 c0 c1 r0 r1 q0 q1 n0 n1
  obtain ⟨b0, b1, c0, c1, r0, r1, q0, q1, _, lad⟩ := R5.out
  have n0 := lad.n0
  have n1 := lad.n1
  clear lad
  go_wp2_with fail
  refine (logical_any _ _).mono ?_; rintro e w6 ⟨rfl, hb⟩; rw [hl]
  have R6 := Lib.hid (R5.out.below hb)
  clear hb b0 b1 c0 c1 r0 r1 q0 q1 n0 n1
  obtain ⟨b0, b1, c0, c1, r0, r1, q0, q1, _, lad⟩ := R6.out
  have n0 := lad.n0
  have n1 := lad.n1
  clear lad
  go_wp2_with fail
  refine (telling_any 4 a b 0 d _ R6.out.lad (fun _ => HT.out (by first | trivial | rfl))).mono ?_
  rintro e w7 ⟨bx, nx, cx, bY, ny, cy, rfl, hx, hy, hb⟩
  have R7 := Lib.hid (R6.out.below hb)
  have HX := Lib.hid hx
  have HY := Lib.hid hy
  clear hb hx hy b0 b1 c0 c1 r0 r1 q0 q1 n0 n1
  obtain ⟨b0, b1, c0, c1, r0, r1, q0, q1, _, lad⟩ := R7.out
  have n0 := lad.n0
  have n1 := lad.n1
  clear lad
  have l1 := Lib.hid (tellX_len 4 a b 0 d)
  have l2 := Lib.hid (tellY_len 4 a b 0 d (fun _ => HT.out (by first | trivial | rfl)))
  go_wp2_with fail
  refine (hull_any (fnOf 4) 4 bx nx cx bY ny cy (tellX 4 a b 0 d) (tellY 4 a b 0 d) _ (enters_any 4 H1.out H2.out) (fun u _ v hv w => op_any 4 H1.out H2.out u v (fun h => HF.out h v hv) w) HX.out HY.out (by rw [← HX.out.1]; exact l1.out.1) (by rw [← HY.out.1]; exact l2.out.1) (by rw [← HX.out.1]; exact Nat.le_trans l1.out.2 (by omega)) (by rw [← HY.out.1]; exact Nat.le_trans l2.out.2 (by omega)) R7.out.lad).mono ?_
  rw [HXY.out]
  rintro e w8 ⟨rfl, hb⟩
  have R8 := Lib.hid (R7.out.below hb)
  clear hb b0 b1 c0 c1 r0 r1 q0 q1 n0 n1
  obtain ⟨b0, b1, c0, c1, r0, r1, q0, q1, _, _⟩ := R8.out
  go_wp2_with fail
  refine bodyPost_ret (v := .agg #[.int .i64 x, .int .i64 y]) (by simp [results, Tryd.results7, go_sem, *]) rfl ⟨by rw [HXY.out], Below.setCell (Below.setCell R8.out.bel (by show w.heap.size ≤ w.heap.size + 1 + 1; omega) _) (by show w.heap.size ≤ w.heap.size + 1 + 1; omega) _⟩

set_option maxHeartbeats 1000000 in
theorem range_div_n (op a b c d : Int) (w : World) (L : Laid w) (h1 : 1 ≤ op) (h2 : op ≤ 18) (hk : op = 4) (hab : ¬ b < a) (hcd : ¬ d < c) (hz : ¬ c = 0) (hne : op = 4 → divL c d ≠ []) (hf : 4 ≤ op ∧ op ≤ 6 → ∀ v ∈ tellY op a b c d, ¬ v = 0) : Calls Tryd.prog 7 #[.int .u8 op, .agg #[.int .i64 a, .int .i64 b], .agg #[.int .i64 c, .int .i64 d]] w (Gives w (hullV op (tellX op a b c d) (tellY op a b c d))) := by
  have en := func_is_nil
  have R0 := Lib.hid (RBox.start w a b c d L)
  have e1 : decide (b < a) = false := by simpa using hab
  have e2 : decide (d < c) = false := by simpa using hcd
  subst hk
  have hu : unaryB 4 = false := by decide
  have hd0 : decide ((4 : Int) ≤ 4 ∧ (4 : Int) ≤ 6) = true := by decide
  have hl : decide ((13 : Int) ≤ 4 ∧ (4 : Int) ≤ 15) = false := by decide
  clear hab hcd
  have HT := Lib.hid hne
  have HF := Lib.hid hf
  have H1 := Lib.hid h1
  have H2 := Lib.hid h2
  obtain ⟨x, y, hxy⟩ := hull_iv 4 (tellX 4 a b c d) (tellY 4 a b c d)
  have HXY := Lib.hid hxy
  clear hne hf hxy
  clear L
  go_enter Tryd.func7, Tryd.ntmps7
  go_wp2_with fail
  refine (find_any 4 h1 h2 _).mono ?_; rintro e w1 ⟨rfl, hb⟩
  have R1 := Lib.hid (R0.out.below hb)
  clear hb
  obtain ⟨b0, b1, c0, c1, r0, r1, q0, q1, _, lad⟩ := R1.out
  have n0 := lad.n0
  have n1 := lad.n1
  clear lad
  go_wp2_with fail
  refine (empty_any _ _ _).mono ?_; rintro e w2 ⟨rfl, hb⟩; rw [e1]
  have R2 := Lib.hid (R1.out.below hb)
  clear hb b0 b1 c0 c1 r0 r1 q0 q1 n0 n1
  obtain ⟨b0, b1, c0, c1, r0, r1, q0, q1, _, lad⟩ := R2.out
  have n0 := lad.n0
  have n1 := lad.n1
  clear lad
  go_wp2_with fail
  refine (unary_any _ _).mono ?_; rintro e w3 ⟨rfl, hb⟩; rw [hu]
  have R3 := Lib.hid (R2.out.below hb)
  clear hb b0 b1 c0 c1 r0 r1 q0 q1 n0 n1
  obtain ⟨b0, b1, c0, c1, r0, r1, q0, q1, _, lad⟩ := R3.out
  have n0 := lad.n0
  have n1 := lad.n1
  clear lad
  go_wp2_with fail
  refine (empty_any _ _ _).mono ?_; rintro e w4 ⟨rfl, hb⟩; rw [e2]
  have R4 := Lib.hid (R3.out.below hb)
  clear hb b0 b1 c0 c1 r0 r1 q0 q1 n0 n1
  obtain ⟨b0, b1, c0, c1, r0, r1, q0, q1, _, lad⟩ := R4.out
  have n0 := lad.n0
  have n1 := lad.n1
  clear lad
  go_wp2_with fail
  refine (divides_any _ _).mono ?_; rintro e w5 ⟨rfl, hb⟩; rw [hd0]
  have R5 := Lib.hid (R4.out.below hb)
  clear hb b0 b1 c0 c1 r0 r1 q0 q1 n0 n1
  obtain ⟨b0, b1, c0, c1, r0, r1, q0, q1, _, lad⟩ := R5.out
  have n0 := lad.n0
  have n1 := lad.n1
  clear lad
  go_wp2_with fail
  refine (logical_any _ _).mono ?_; rintro e w6 ⟨rfl, hb⟩; rw [hl]
  have R6 := Lib.hid (R5.out.below hb)
  clear hb b0 b1 c0 c1 r0 r1 q0 q1 n0 n1
  obtain ⟨b0, b1, c0, c1, r0, r1, q0, q1, _, lad⟩ := R6.out
  have n0 := lad.n0
  have n1 := lad.n1
  clear lad
  go_wp2_with fail
  refine (telling_any 4 a b c d _ R6.out.lad (fun _ => HT.out (by first | trivial | rfl))).mono ?_
  rintro e w7 ⟨bx, nx, cx, bY, ny, cy, rfl, hx, hy, hb⟩
  have R7 := Lib.hid (R6.out.below hb)
  have HX := Lib.hid hx
  have HY := Lib.hid hy
  clear hb hx hy b0 b1 c0 c1 r0 r1 q0 q1 n0 n1
  obtain ⟨b0, b1, c0, c1, r0, r1, q0, q1, _, lad⟩ := R7.out
  have n0 := lad.n0
  have n1 := lad.n1
  clear lad
  have l1 := Lib.hid (tellX_len 4 a b c d)
  have l2 := Lib.hid (tellY_len 4 a b c d (fun _ => HT.out (by first | trivial | rfl)))
  go_wp2_with fail
  refine (hull_any (fnOf 4) 4 bx nx cx bY ny cy (tellX 4 a b c d) (tellY 4 a b c d) _ (enters_any 4 H1.out H2.out) (fun u _ v hv w => op_any 4 H1.out H2.out u v (fun h => HF.out h v hv) w) HX.out HY.out (by rw [← HX.out.1]; exact l1.out.1) (by rw [← HY.out.1]; exact l2.out.1) (by rw [← HX.out.1]; exact Nat.le_trans l1.out.2 (by omega)) (by rw [← HY.out.1]; exact Nat.le_trans l2.out.2 (by omega)) R7.out.lad).mono ?_
  rw [HXY.out]
  rintro e w8 ⟨rfl, hb⟩
  have R8 := Lib.hid (R7.out.below hb)
  clear hb b0 b1 c0 c1 r0 r1 q0 q1 n0 n1
  obtain ⟨b0, b1, c0, c1, r0, r1, q0, q1, _, _⟩ := R8.out
  go_wp2_with fail
  refine bodyPost_ret (v := .agg #[.int .i64 x, .int .i64 y]) (by simp [results, Tryd.results7, go_sem, *]) rfl ⟨by rw [HXY.out], Below.setCell (Below.setCell R8.out.bel (by show w.heap.size ≤ w.heap.size + 1 + 1; omega) _) (by show w.heap.size ≤ w.heap.size + 1 + 1; omega) _⟩

set_option maxHeartbeats 1000000 in
theorem range_two (op a b c d : Int) (w : World) (L : Laid w) (h1 : 1 ≤ op) (h2 : op ≤ 18) (n4 : ¬ (4 ≤ op ∧ op ≤ 6)) (nl : ¬ (13 ≤ op ∧ op ≤ 15)) (hab : ¬ b < a) (hu : unaryB op = false) (hcd : ¬ d < c) (hne : op = 4 → divL c d ≠ []) (hf : 4 ≤ op ∧ op ≤ 6 → ∀ v ∈ tellY op a b c d, ¬ v = 0) : Calls Tryd.prog 7 #[.int .u8 op, .agg #[.int .i64 a, .int .i64 b], .agg #[.int .i64 c, .int .i64 d]] w (Gives w (hullV op (tellX op a b c d) (tellY op a b c d))) := by
  have en := func_is_nil
  have R0 := Lib.hid (RBox.start w a b c d L)
  have e1 : decide (b < a) = false := by simpa using hab
  have e2 : decide (d < c) = false := by simpa using hcd
  have hd0 : decide (4 ≤ op ∧ op ≤ 6) = false := by simpa using n4
  have hl : decide (13 ≤ op ∧ op ≤ 15) = false := by simpa using nl
  have e5 : (op == 5) = false := by simp; omega
  have e6 : (op == 6) = false := by simp; omega
  clear hab hcd n4 nl
  have HT := Lib.hid hne
  have HF := Lib.hid hf
  have H1 := Lib.hid h1
  have H2 := Lib.hid h2
  obtain ⟨x, y, hxy⟩ := hull_iv op (tellX op a b c d) (tellY op a b c d)
  have HXY := Lib.hid hxy
  clear hne hf hxy
  clear L
  go_enter Tryd.func7, Tryd.ntmps7
  go_wp2_with fail
  refine (find_any op h1 h2 _).mono ?_; rintro e w1 ⟨rfl, hb⟩
  have R1 := Lib.hid (R0.out.below hb)
  clear hb
  obtain ⟨b0, b1, c0, c1, r0, r1, q0, q1, _, lad⟩ := R1.out
  have n0 := lad.n0
  have n1 := lad.n1
  clear lad
  go_wp2_with fail
  refine (empty_any _ _ _).mono ?_; rintro e w2 ⟨rfl, hb⟩; rw [e1]
  have R2 := Lib.hid (R1.out.below hb)
  clear hb b0 b1 c0 c1 r0 r1 q0 q1 n0 n1
  obtain ⟨b0, b1, c0, c1, r0, r1, q0, q1, _, lad⟩ := R2.out
  have n0 := lad.n0
  have n1 := lad.n1
  clear lad
  go_wp2_with fail
  refine (unary_any _ _).mono ?_; rintro e w3 ⟨rfl, hb⟩; rw [hu]
  have R3 := Lib.hid (R2.out.below hb)
  clear hb b0 b1 c0 c1 r0 r1 q0 q1 n0 n1
  obtain ⟨b0, b1, c0, c1, r0, r1, q0, q1, _, lad⟩ := R3.out
  have n0 := lad.n0
  have n1 := lad.n1
  clear lad
  go_wp2_with fail
  refine (empty_any _ _ _).mono ?_; rintro e w4 ⟨rfl, hb⟩; rw [e2]
  have R4 := Lib.hid (R3.out.below hb)
  clear hb b0 b1 c0 c1 r0 r1 q0 q1 n0 n1
  obtain ⟨b0, b1, c0, c1, r0, r1, q0, q1, _, lad⟩ := R4.out
  have n0 := lad.n0
  have n1 := lad.n1
  clear lad
  go_wp2_with fail
  refine (divides_any _ _).mono ?_; rintro e w5 ⟨rfl, hb⟩; rw [hd0]
  have R5 := Lib.hid (R4.out.below hb)
  clear hb b0 b1 c0 c1 r0 r1 q0 q1 n0 n1
  obtain ⟨b0, b1, c0, c1, r0, r1, q0, q1, _, lad⟩ := R5.out
  have n0 := lad.n0
  have n1 := lad.n1
  clear lad
  go_wp2_with fail
  refine (logical_any _ _).mono ?_; rintro e w6 ⟨rfl, hb⟩; rw [hl]
  have R6 := Lib.hid (R5.out.below hb)
  clear hb b0 b1 c0 c1 r0 r1 q0 q1 n0 n1
  obtain ⟨b0, b1, c0, c1, r0, r1, q0, q1, _, lad⟩ := R6.out
  have n0 := lad.n0
  have n1 := lad.n1
  clear lad
  go_wp2_with fail
  refine (telling_any op a b c d _ R6.out.lad HT.out).mono ?_
  rintro e w7 ⟨bx, nx, cx, bY, ny, cy, rfl, hx, hy, hb⟩
  have R7 := Lib.hid (R6.out.below hb)
  have HX := Lib.hid hx
  have HY := Lib.hid hy
  clear hb hx hy b0 b1 c0 c1 r0 r1 q0 q1 n0 n1
  obtain ⟨b0, b1, c0, c1, r0, r1, q0, q1, _, lad⟩ := R7.out
  have n0 := lad.n0
  have n1 := lad.n1
  clear lad
  have l1 := Lib.hid (tellX_len op a b c d)
  have l2 := Lib.hid (tellY_len op a b c d HT.out)
  go_wp2_with fail
  refine (hull_any (fnOf op) op bx nx cx bY ny cy (tellX op a b c d) (tellY op a b c d) _ (enters_any op H1.out H2.out) (fun u _ v hv w => op_any op H1.out H2.out u v (fun h => HF.out h v hv) w) HX.out HY.out (by rw [← HX.out.1]; exact l1.out.1) (by rw [← HY.out.1]; exact l2.out.1) (by rw [← HX.out.1]; exact Nat.le_trans l1.out.2 (by omega)) (by rw [← HY.out.1]; exact Nat.le_trans l2.out.2 (by omega)) R7.out.lad).mono ?_
  rw [HXY.out]
  rintro e w8 ⟨rfl, hb⟩
  have R8 := Lib.hid (R7.out.below hb)
  clear hb b0 b1 c0 c1 r0 r1 q0 q1 n0 n1
  obtain ⟨b0, b1, c0, c1, r0, r1, q0, q1, _, _⟩ := R8.out
  go_wp2_with fail
  refine bodyPost_ret (v := .agg #[.int .i64 x, .int .i64 y]) (by simp [results, Tryd.results7, go_sem, *]) rfl ⟨by rw [HXY.out], Below.setCell (Below.setCell R8.out.bel (by show w.heap.size ≤ w.heap.size + 1 + 1; omega) _) (by show w.heap.size ≤ w.heap.size + 1 + 1; omega) _⟩

set_option maxHeartbeats 1000000 in
theorem range_one (op a b c d : Int) (w : World) (L : Laid w) (h1 : 1 ≤ op) (h2 : op ≤ 18) (hu : unaryB op = true) (hab : ¬ b < a) (hne : op = 4 → divL c d ≠ []) (hf : 4 ≤ op ∧ op ≤ 6 → ∀ v ∈ tellY op a b c d, ¬ v = 0) : Calls Tryd.prog 7 #[.int .u8 op, .agg #[.int .i64 a, .int .i64 b], .agg #[.int .i64 c, .int .i64 d]] w (Gives w (hullV op (tellX op a b c d) (tellY op a b c d))) := by
  have en := func_is_nil
  have R0 := Lib.hid (RBox.start w a b c d L)
  have hu2 : 16 ≤ op ∧ op ≤ 18 := of_decide_eq_true hu
  have e1 : decide (b < a) = false := by simpa using hab
  have hd0 : decide (4 ≤ op ∧ op ≤ 6) = false := by simp; omega
  have hl : decide (13 ≤ op ∧ op ≤ 15) = false := by simp; omega
  have e5 : (op == 5) = false := by simp; omega
  have e6 : (op == 6) = false := by simp; omega
  clear hab hu2
  have HT := Lib.hid hne
  have HF := Lib.hid hf
  have H1 := Lib.hid h1
  have H2 := Lib.hid h2
  obtain ⟨x, y, hxy⟩ := hull_iv op (tellX op a b c d) (tellY op a b c d)
  have HXY := Lib.hid hxy
  clear hne hf hxy
  clear L
  go_enter Tryd.func7, Tryd.ntmps7
  go_wp2_with fail
  refine (find_any op h1 h2 _).mono ?_; rintro e w1 ⟨rfl, hb⟩
  have R1 := Lib.hid (R0.out.below hb)
  clear hb
  obtain ⟨b0, b1, c0, c1, r0, r1, q0, q1, _, lad⟩ := R1.out
  have n0 := lad.n0
  have n1 := lad.n1
  clear lad
  go_wp2_with fail
  refine (empty_any _ _ _).mono ?_; rintro e w2 ⟨rfl, hb⟩; rw [e1]
  have R2 := Lib.hid (R1.out.below hb)
  clear hb b0 b1 c0 c1 r0 r1 q0 q1 n0 n1
  obtain ⟨b0, b1, c0, c1, r0, r1, q0, q1, _, lad⟩ := R2.out
  have n0 := lad.n0
  have n1 := lad.n1
  clear lad
  go_wp2_with fail
  refine (unary_any _ _).mono ?_; rintro e w3 ⟨rfl, hb⟩; rw [hu]
  have R3 := Lib.hid (R2.out.below hb)
  clear hb b0 b1 c0 c1 r0 r1 q0 q1 n0 n1
  obtain ⟨b0, b1, c0, c1, r0, r1, q0, q1, _, lad⟩ := R3.out
  have n0 := lad.n0
  have n1 := lad.n1
  clear lad
  go_wp2_with fail
  refine (divides_any _ _).mono ?_; rintro e w4 ⟨rfl, hb⟩; rw [hd0]
  have R4 := Lib.hid (R3.out.below hb)
  clear hb b0 b1 c0 c1 r0 r1 q0 q1 n0 n1
  obtain ⟨b0, b1, c0, c1, r0, r1, q0, q1, _, lad⟩ := R4.out
  have n0 := lad.n0
  have n1 := lad.n1
  clear lad
  go_wp2_with fail
  refine (logical_any _ _).mono ?_; rintro e w5 ⟨rfl, hb⟩; rw [hl]
  have R5 := Lib.hid (R4.out.below hb)
  clear hb b0 b1 c0 c1 r0 r1 q0 q1 n0 n1
  obtain ⟨b0, b1, c0, c1, r0, r1, q0, q1, _, lad⟩ := R5.out
  have n0 := lad.n0
  have n1 := lad.n1
  clear lad
  go_wp2_with fail
  refine (telling_any op a b c d _ R5.out.lad HT.out).mono ?_
  rintro e w6 ⟨bx, nx, cx, bY, ny, cy, rfl, hx, hy, hb⟩
  have R6 := Lib.hid (R5.out.below hb)
  have HX := Lib.hid hx
  have HY := Lib.hid hy
  clear hb hx hy b0 b1 c0 c1 r0 r1 q0 q1 n0 n1
  obtain ⟨b0, b1, c0, c1, r0, r1, q0, q1, _, lad⟩ := R6.out
  have n0 := lad.n0
  have n1 := lad.n1
  clear lad
  have l1 := Lib.hid (tellX_len op a b c d)
  have l2 := Lib.hid (tellY_len op a b c d HT.out)
  go_wp2_with fail
  refine (hull_any (fnOf op) op bx nx cx bY ny cy (tellX op a b c d) (tellY op a b c d) _ (enters_any op H1.out H2.out) (fun u _ v hv w => op_any op H1.out H2.out u v (fun h => HF.out h v hv) w) HX.out HY.out (by rw [← HX.out.1]; exact l1.out.1) (by rw [← HY.out.1]; exact l2.out.1) (by rw [← HX.out.1]; exact Nat.le_trans l1.out.2 (by omega)) (by rw [← HY.out.1]; exact Nat.le_trans l2.out.2 (by omega)) R6.out.lad).mono ?_
  rw [HXY.out]
  rintro e w7 ⟨rfl, hb⟩
  have R7 := Lib.hid (R6.out.below hb)
  clear hb b0 b1 c0 c1 r0 r1 q0 q1 n0 n1
  obtain ⟨b0, b1, c0, c1, r0, r1, q0, q1, _, _⟩ := R7.out
  go_wp2_with fail
  refine bodyPost_ret (v := .agg #[.int .i64 x, .int .i64 y]) (by simp [results, Tryd.results7, go_sem, *]) rfl ⟨by rw [HXY.out], Below.setCell (Below.setCell R7.out.bel (by show w.heap.size ≤ w.heap.size + 1 + 1; omega) _) (by show w.heap.size ≤ w.heap.size + 1 + 1; omega) _⟩

set_option maxHeartbeats 1000000 in
theorem range_full1 (op a b c d : Int) (w : World) (L : Laid w) (h1 : 1 ≤ op) (h2 : op ≤ 18) (h13 : 13 ≤ op) (h15 : op ≤ 15) (hab : ¬ b < a) (hu : unaryB op = false) (hcd : ¬ d < c) (la : liesB a b 0 1 = false) : Calls Tryd.prog 7 #[.int .u8 op, .agg #[.int .i64 a, .int .i64 b], .agg #[.int .i64 c, .int .i64 d]] w (Gives w (iv (-9223372036854775808) 9223372036854775807)) := by
  have en := func_is_nil
  have R0 := Lib.hid (RBox.start w a b c d L)
  have e1 : decide (b < a) = false := by simpa using hab
  have e2 : decide (d < c) = false := by simpa using hcd
  have hd0 : decide (4 ≤ op ∧ op ≤ 6) = false := by simp; omega
  have hl : decide (13 ≤ op ∧ op ≤ 15) = true := by simpa using ⟨h13, h15⟩
  have e5 : (op == 5) = false := by simp; omega
  have e6 : (op == 6) = false := by simp; omega
  clear hab hcd h13 h15
  clear L
  go_enter Tryd.func7, Tryd.ntmps7
  go_wp2_with fail
  refine (find_any op h1 h2 _).mono ?_; rintro e w1 ⟨rfl, hb⟩
  have R1 := Lib.hid (R0.out.below hb)
  clear hb
  obtain ⟨b0, b1, c0, c1, r0, r1, q0, q1, _, lad⟩ := R1.out
  have n0 := lad.n0
  have n1 := lad.n1
  clear lad
  go_wp2_with fail
  refine (empty_any _ _ _).mono ?_; rintro e w2 ⟨rfl, hb⟩; rw [e1]
  have R2 := Lib.hid (R1.out.below hb)
  clear hb b0 b1 c0 c1 r0 r1 q0 q1 n0 n1
  obtain ⟨b0, b1, c0, c1, r0, r1, q0, q1, _, lad⟩ := R2.out
  have n0 := lad.n0
  have n1 := lad.n1
  clear lad
  go_wp2_with fail
  refine (unary_any _ _).mono ?_; rintro e w3 ⟨rfl, hb⟩; rw [hu]
  have R3 := Lib.hid (R2.out.below hb)
  clear hb b0 b1 c0 c1 r0 r1 q0 q1 n0 n1
  obtain ⟨b0, b1, c0, c1, r0, r1, q0, q1, _, lad⟩ := R3.out
  have n0 := lad.n0
  have n1 := lad.n1
  clear lad
  go_wp2_with fail
  refine (empty_any _ _ _).mono ?_; rintro e w4 ⟨rfl, hb⟩; rw [e2]
  have R4 := Lib.hid (R3.out.below hb)
  clear hb b0 b1 c0 c1 r0 r1 q0 q1 n0 n1
  obtain ⟨b0, b1, c0, c1, r0, r1, q0, q1, _, lad⟩ := R4.out
  have n0 := lad.n0
  have n1 := lad.n1
  clear lad
  go_wp2_with fail
  refine (divides_any _ _).mono ?_; rintro e w5 ⟨rfl, hb⟩; rw [hd0]
  have R5 := Lib.hid (R4.out.below hb)
  clear hb b0 b1 c0 c1 r0 r1 q0 q1 n0 n1
  obtain ⟨b0, b1, c0, c1, r0, r1, q0, q1, _, lad⟩ := R5.out
  have n0 := lad.n0
  have n1 := lad.n1
  clear lad
  go_wp2_with fail
  refine (logical_any _ _).mono ?_; rintro e w6 ⟨rfl, hb⟩; rw [hl]
  have R6 := Lib.hid (R5.out.below hb)
  clear hb b0 b1 c0 c1 r0 r1 q0 q1 n0 n1
  obtain ⟨b0, b1, c0, c1, r0, r1, q0, q1, _, lad⟩ := R6.out
  have n0 := lad.n0
  have n1 := lad.n1
  clear lad
  have u0 := R6.out.lad.t0
  have u1 := R6.out.lad.t1
  have v0 := R6.out.lad.f0
  have v1 := R6.out.lad.f1
  go_wp2_with fail
  refine (lies_any _ _ _ _ _).mono ?_; rintro e w7 ⟨rfl, hb⟩; rw [la]
  have R7 := Lib.hid (R6.out.below hb)
  clear hb u0 u1 v0 v1 b0 b1 c0 c1 r0 r1 q0 q1 n0 n1
  obtain ⟨b0, b1, c0, c1, r0, r1, q0, q1, _, lad⟩ := R7.out
  have n0 := lad.n0
  have n1 := lad.n1
  clear lad
  have u0 := R7.out.lad.t0
  have u1 := R7.out.lad.t1
  have v0 := R7.out.lad.f0
  have v1 := R7.out.lad.f1
  go_wp2_with fail
  refine bodyPost_ret (v := .agg #[.int .i64 (-9223372036854775808), .int .i64 9223372036854775807]) (by simp [results, Tryd.results7, go_sem, *]) rfl ⟨rfl, Below.setCell (Below.setCell R7.out.bel (by show w.heap.size ≤ w.heap.size + 1 + 1; omega) _) (by show w.heap.size ≤ w.heap.size + 1 + 1; omega) _⟩

set_option maxHeartbeats 1000000 in
theorem range_full2 (op a b c d : Int) (w : World) (L : Laid w) (h1 : 1 ≤ op) (h2 : op ≤ 18) (h13 : 13 ≤ op) (h15 : op ≤ 15) (hab : ¬ b < a) (hu : unaryB op = false) (hcd : ¬ d < c) (la : liesB a b 0 1 = true) (lb : liesB c d 0 1 = false) : Calls Tryd.prog 7 #[.int .u8 op, .agg #[.int .i64 a, .int .i64 b], .agg #[.int .i64 c, .int .i64 d]] w (Gives w (iv (-9223372036854775808) 9223372036854775807)) := by
  have en := func_is_nil
  have R0 := Lib.hid (RBox.start w a b c d L)
  have e1 : decide (b < a) = false := by simpa using hab
  have e2 : decide (d < c) = false := by simpa using hcd
  have hd0 : decide (4 ≤ op ∧ op ≤ 6) = false := by simp; omega
  have hl : decide (13 ≤ op ∧ op ≤ 15) = true := by simpa using ⟨h13, h15⟩
  have e5 : (op == 5) = false := by simp; omega
  have e6 : (op == 6) = false := by simp; omega
  clear hab hcd h13 h15
  clear L
  go_enter Tryd.func7, Tryd.ntmps7
  go_wp2_with fail
  refine (find_any op h1 h2 _).mono ?_; rintro e w1 ⟨rfl, hb⟩
  have R1 := Lib.hid (R0.out.below hb)
  clear hb
  obtain ⟨b0, b1, c0, c1, r0, r1, q0, q1, _, lad⟩ := R1.out
  have n0 := lad.n0
  have n1 := lad.n1
  clear lad
  go_wp2_with fail
  refine (empty_any _ _ _).mono ?_; rintro e w2 ⟨rfl, hb⟩; rw [e1]
  have R2 := Lib.hid (R1.out.below hb)
  clear hb b0 b1 c0 c1 r0 r1 q0 q1 n0 n1
  obtain ⟨b0, b1, c0, c1, r0, r1, q0, q1, _, lad⟩ := R2.out
  have n0 := lad.n0
  have n1 := lad.n1
  clear lad
  go_wp2_with fail
  refine (unary_any _ _).mono ?_; rintro e w3 ⟨rfl, hb⟩; rw [hu]
  have R3 := Lib.hid (R2.out.below hb)
  clear hb b0 b1 c0 c1 r0 r1 q0 q1 n0 n1
  obtain ⟨b0, b1, c0, c1, r0, r1, q0, q1, _, lad⟩ := R3.out
  have n0 := lad.n0
  have n1 := lad.n1
  clear lad
  go_wp2_with fail
  refine (empty_any _ _ _).mono ?_; rintro e w4 ⟨rfl, hb⟩; rw [e2]
  have R4 := Lib.hid (R3.out.below hb)
  clear hb b0 b1 c0 c1 r0 r1 q0 q1 n0 n1
  obtain ⟨b0, b1, c0, c1, r0, r1, q0, q1, _, lad⟩ := R4.out
  have n0 := lad.n0
  have n1 := lad.n1
  clear lad
  go_wp2_with fail
  refine (divides_any _ _).mono ?_; rintro e w5 ⟨rfl, hb⟩; rw [hd0]
  have R5 := Lib.hid (R4.out.below hb)
  clear hb b0 b1 c0 c1 r0 r1 q0 q1 n0 n1
  obtain ⟨b0, b1, c0, c1, r0, r1, q0, q1, _, lad⟩ := R5.out
  have n0 := lad.n0
  have n1 := lad.n1
  clear lad
  go_wp2_with fail
  refine (logical_any _ _).mono ?_; rintro e w6 ⟨rfl, hb⟩; rw [hl]
  have R6 := Lib.hid (R5.out.below hb)
  clear hb b0 b1 c0 c1 r0 r1 q0 q1 n0 n1
  obtain ⟨b0, b1, c0, c1, r0, r1, q0, q1, _, lad⟩ := R6.out
  have n0 := lad.n0
  have n1 := lad.n1
  clear lad
  have u0 := R6.out.lad.t0
  have u1 := R6.out.lad.t1
  have v0 := R6.out.lad.f0
  have v1 := R6.out.lad.f1
  go_wp2_with fail
  refine (lies_any _ _ _ _ _).mono ?_; rintro e w7 ⟨rfl, hb⟩; rw [la]
  have R7 := Lib.hid (R6.out.below hb)
  clear hb u0 u1 v0 v1 b0 b1 c0 c1 r0 r1 q0 q1 n0 n1
  obtain ⟨b0, b1, c0, c1, r0, r1, q0, q1, _, lad⟩ := R7.out
  have n0 := lad.n0
  have n1 := lad.n1
  clear lad
  have u0 := R7.out.lad.t0
  have u1 := R7.out.lad.t1
  have v0 := R7.out.lad.f0
  have v1 := R7.out.lad.f1
  go_wp2_with fail
  refine (lies_any _ _ _ _ _).mono ?_; rintro e w8 ⟨rfl, hb⟩; rw [lb]
  have R8 := Lib.hid (R7.out.below hb)
  clear hb u0 u1 v0 v1 b0 b1 c0 c1 r0 r1 q0 q1 n0 n1
  obtain ⟨b0, b1, c0, c1, r0, r1, q0, q1, _, lad⟩ := R8.out
  have n0 := lad.n0
  have n1 := lad.n1
  clear lad
  have u0 := R8.out.lad.t0
  have u1 := R8.out.lad.t1
  have v0 := R8.out.lad.f0
  have v1 := R8.out.lad.f1
  go_wp2_with fail
  refine bodyPost_ret (v := .agg #[.int .i64 (-9223372036854775808), .int .i64 9223372036854775807]) (by simp [results, Tryd.results7, go_sem, *]) rfl ⟨rfl, Below.setCell (Below.setCell R8.out.bel (by show w.heap.size ≤ w.heap.size + 1 + 1; omega) _) (by show w.heap.size ≤ w.heap.size + 1 + 1; omega) _⟩

set_option maxHeartbeats 1000000 in
theorem range_truth (op a b c d : Int) (w : World) (L : Laid w) (h1 : 1 ≤ op) (h2 : op ≤ 18) (h13 : 13 ≤ op) (h15 : op ≤ 15) (hab : ¬ b < a) (hu : unaryB op = false) (hcd : ¬ d < c) (la : liesB a b 0 1 = true) (lb : liesB c d 0 1 = true) (hne : op = 4 → divL c d ≠ []) (hf : 4 ≤ op ∧ op ≤ 6 → ∀ v ∈ tellY op a b c d, ¬ v = 0) : Calls Tryd.prog 7 #[.int .u8 op, .agg #[.int .i64 a, .int .i64 b], .agg #[.int .i64 c, .int .i64 d]] w (Gives w (hullV op (tellX op a b c d) (tellY op a b c d))) := by
  have en := func_is_nil
  have R0 := Lib.hid (RBox.start w a b c d L)
  have e1 : decide (b < a) = false := by simpa using hab
  have e2 : decide (d < c) = false := by simpa using hcd
  have hd0 : decide (4 ≤ op ∧ op ≤ 6) = false := by simp; omega
  have hl : decide (13 ≤ op ∧ op ≤ 15) = true := by simpa using ⟨h13, h15⟩
  have e5 : (op == 5) = false := by simp; omega
  have e6 : (op == 6) = false := by simp; omega
  clear hab hcd h13 h15
  have HT := Lib.hid hne
  have HF := Lib.hid hf
  have H1 := Lib.hid h1
  have H2 := Lib.hid h2
  obtain ⟨x, y, hxy⟩ := hull_iv op (tellX op a b c d) (tellY op a b c d)
  have HXY := Lib.hid hxy
  clear hne hf hxy
  clear L
  go_enter Tryd.func7, Tryd.ntmps7
  go_wp2_with fail
  refine (find_any op h1 h2 _).mono ?_; rintro e w1 ⟨rfl, hb⟩
  have R1 := Lib.hid (R0.out.below hb)
  clear hb
  obtain ⟨b0, b1, c0, c1, r0, r1, q0, q1, _, lad⟩ := R1.out
  have n0 := lad.n0
  have n1 := lad.n1
  clear lad
  go_wp2_with fail
  refine (empty_any _ _ _).mono ?_; rintro e w2 ⟨rfl, hb⟩; rw [e1]
  have R2 := Lib.hid (R1.out.below hb)
  clear hb b0 b1 c0 c1 r0 r1 q0 q1 n0 n1
  obtain ⟨b0, b1, c0, c1, r0, r1, q0, q1, _, lad⟩ := R2.out
  have n0 := lad.n0
  have n1 := lad.n1
  clear lad
  go_wp2_with fail
  refine (unary_any _ _).mono ?_; rintro e w3 ⟨rfl, hb⟩; rw [hu]
  have R3 := Lib.hid (R2.out.below hb)
  clear hb b0 b1 c0 c1 r0 r1 q0 q1 n0 n1
  obtain ⟨b0, b1, c0, c1, r0, r1, q0, q1, _, lad⟩ := R3.out
  have n0 := lad.n0
  have n1 := lad.n1
  clear lad
  go_wp2_with fail
  refine (empty_any _ _ _).mono ?_; rintro e w4 ⟨rfl, hb⟩; rw [e2]
  have R4 := Lib.hid (R3.out.below hb)
  clear hb b0 b1 c0 c1 r0 r1 q0 q1 n0 n1
  obtain ⟨b0, b1, c0, c1, r0, r1, q0, q1, _, lad⟩ := R4.out
  have n0 := lad.n0
  have n1 := lad.n1
  clear lad
  go_wp2_with fail
  refine (divides_any _ _).mono ?_; rintro e w5 ⟨rfl, hb⟩; rw [hd0]
  have R5 := Lib.hid (R4.out.below hb)
  clear hb b0 b1 c0 c1 r0 r1 q0 q1 n0 n1
  obtain ⟨b0, b1, c0, c1, r0, r1, q0, q1, _, lad⟩ := R5.out
  have n0 := lad.n0
  have n1 := lad.n1
  clear lad
  go_wp2_with fail
  refine (logical_any _ _).mono ?_; rintro e w6 ⟨rfl, hb⟩; rw [hl]
  have R6 := Lib.hid (R5.out.below hb)
  clear hb b0 b1 c0 c1 r0 r1 q0 q1 n0 n1
  obtain ⟨b0, b1, c0, c1, r0, r1, q0, q1, _, lad⟩ := R6.out
  have n0 := lad.n0
  have n1 := lad.n1
  clear lad
  have u0 := R6.out.lad.t0
  have u1 := R6.out.lad.t1
  have v0 := R6.out.lad.f0
  have v1 := R6.out.lad.f1
  go_wp2_with fail
  refine (lies_any _ _ _ _ _).mono ?_; rintro e w7 ⟨rfl, hb⟩; rw [la]
  have R7 := Lib.hid (R6.out.below hb)
  clear hb u0 u1 v0 v1 b0 b1 c0 c1 r0 r1 q0 q1 n0 n1
  obtain ⟨b0, b1, c0, c1, r0, r1, q0, q1, _, lad⟩ := R7.out
  have n0 := lad.n0
  have n1 := lad.n1
  clear lad
  have u0 := R7.out.lad.t0
  have u1 := R7.out.lad.t1
  have v0 := R7.out.lad.f0
  have v1 := R7.out.lad.f1
  go_wp2_with fail
  refine (lies_any _ _ _ _ _).mono ?_; rintro e w8 ⟨rfl, hb⟩; rw [lb]
  have R8 := Lib.hid (R7.out.below hb)
  clear hb u0 u1 v0 v1 b0 b1 c0 c1 r0 r1 q0 q1 n0 n1
  obtain ⟨b0, b1, c0, c1, r0, r1, q0, q1, _, lad⟩ := R8.out
  have n0 := lad.n0
  have n1 := lad.n1
  clear lad
  go_wp2_with fail
  refine (telling_any op a b c d _ R8.out.lad HT.out).mono ?_
  rintro e w9 ⟨bx, nx, cx, bY, ny, cy, rfl, hx, hy, hb⟩
  have R9 := Lib.hid (R8.out.below hb)
  have HX := Lib.hid hx
  have HY := Lib.hid hy
  clear hb hx hy b0 b1 c0 c1 r0 r1 q0 q1 n0 n1
  obtain ⟨b0, b1, c0, c1, r0, r1, q0, q1, _, lad⟩ := R9.out
  have n0 := lad.n0
  have n1 := lad.n1
  clear lad
  have l1 := Lib.hid (tellX_len op a b c d)
  have l2 := Lib.hid (tellY_len op a b c d HT.out)
  go_wp2_with fail
  refine (hull_any (fnOf op) op bx nx cx bY ny cy (tellX op a b c d) (tellY op a b c d) _ (enters_any op H1.out H2.out) (fun u _ v hv w => op_any op H1.out H2.out u v (fun h => HF.out h v hv) w) HX.out HY.out (by rw [← HX.out.1]; exact l1.out.1) (by rw [← HY.out.1]; exact l2.out.1) (by rw [← HX.out.1]; exact Nat.le_trans l1.out.2 (by omega)) (by rw [← HY.out.1]; exact Nat.le_trans l2.out.2 (by omega)) R9.out.lad).mono ?_
  rw [HXY.out]
  rintro e w10 ⟨rfl, hb⟩
  have R10 := Lib.hid (R9.out.below hb)
  clear hb b0 b1 c0 c1 r0 r1 q0 q1 n0 n1
  obtain ⟨b0, b1, c0, c1, r0, r1, q0, q1, _, _⟩ := R10.out
  go_wp2_with fail
  refine bodyPost_ret (v := .agg #[.int .i64 x, .int .i64 y]) (by simp [results, Tryd.results7, go_sem, *]) rfl ⟨by rw [HXY.out], Below.setCell (Below.setCell R10.out.bel (by show w.heap.size ≤ w.heap.size + 1 + 1; omega) _) (by show w.heap.size ≤ w.heap.size + 1 + 1; omega) _⟩

end Go.Proofs.YtdbfaekdkjclcaaDoor
