
/-
  'telling' of package num where the operator is a relation.
-/
import Derived.Test.YtdbfaekdkjclcaaDoorNumTd
namespace Go.Proofs.YtdbfaekdkjclcaaDoor
open Go Go.RowKit

set_option maxHeartbeats 1000000 in
/-- A relation over intervals without a common integer: the bounds alone. -/
theorem telling_apart (op a b c d : Int) (w : World) (L : Laid w) (h7 : 7 ≤ op) (h12 : op ≤ 12) (he : min b d < max a c) :
    Calls Tryd.prog 24 #[.int .u8 op, .agg #[.int .i64 a, .int .i64 b], .agg #[.int .i64 c, .int .i64 d]] w (fun e w' => Tells w [a, b] [c, d] e w') := by
  have e4 : (op == 4) = false := by simp; omega
  have e17 : (op == 17) = false := by simp; omega
  have er : decide (7 ≤ op ∧ op ≤ 12) = true := by simpa using ⟨h7, h12⟩
  have EM : Hid (meetV a b c d = .agg #[.int .i64 1, .int .i64 0]) := by show _ = _; rw [meetV, if_pos he]; rfl
  have HL := Lib.hid L
  have d1 : decide ((0 : Int) < 1) = true := by decide
  clear L he h7 h12
  go_enter Tryd.func24, Tryd.ntmps24
  go_wp2
  go_region_held3 (fun w' => w'.cell? ⟨w.heap.size, 0, none⟩ = some (.int .i64 a) ∧ w'.cell? ⟨w.heap.size, 1, none⟩ = some (.int .i64 b) ∧ w'.cell? ⟨w.heap.size + 1, 0, none⟩ = some (.int .i64 c) ∧ w'.cell? ⟨w.heap.size + 1, 1, none⟩ = some (.int .i64 d)) (refine ⟨?_, ?_, ?_, ?_⟩ <;> go_cell) (fail)
  all_goals
    go_wp2_with fail
    refine (relational_any _ _).mono ?_; rintro e w1 ⟨rfl, hb⟩; rw [er]
    have x0 := keepC hb (b := w.heap.size) (o := 0) (v := .int .i64 a) (by go_cell)
    have x1 := keepC hb (b := w.heap.size) (o := 1) (v := .int .i64 b) (by go_cell)
    have x2 := keepC hb (b := w.heap.size + 1) (o := 0) (v := .int .i64 c) (by go_cell)
    have x3 := keepC hb (b := w.heap.size + 1) (o := 1) (v := .int .i64 d) (by go_cell)
    have B1 : Hid (Below w.heap.size w w1) := after (by go_grown) hb
    go_wp2_with fail
    refine (meet_any _ _ _ _ _ (HL.out.after B1.out)).mono ?_
    rw [EM.out]
    rintro e w2 ⟨rfl, hb2⟩
    go_wp2_with (go_at_call 18; refine (empty_box _ _ _).mono ?_; rintro e w' ⟨rfl, rfl⟩; rw [d1])
    go_returns
    refine ⟨_, _, _, _, _, _, rfl, ints_two ?_ ?_, ints_two ?_ ?_, ?_⟩
    all_goals first | exact cell_up (cell_up (keepC hb2 (keepC hb (by go_cell)))) | (repeat' (first | (with_reducible exact Below.refl _ _) | (with_reducible assumption) | (with_reducible refine boxed ?_ _) | (with_reducible refine Below.drew ?_) | (with_reducible refine after ?_ (by assumption))))

theorem keepG {W w' : World} {g n c b o : Nat} {v : Value} (hg : W.grownBy w' (Value.slice (some ⟨g, 0, none⟩) n c).ownBlock) (h : W.cell? ⟨b, o, none⟩ = some v) (hne : b ≠ g) : w'.cell? ⟨b, o, none⟩ = some v :=
  hg.cell h (by simpa [Value.ownBlock] using hne)

theorem news_one {w : World} {g : Nat} {v : Value} (h : w.cell? ⟨g, 0, none⟩ = some v) : ∀ j u, [v][j]? = some u → w.cell? ((⟨g, 0, none⟩ : Addr).add j) = some u := by
  intro j u hj
  match j, hj with
  | 0, hj => simp at hj; subst hj; exact h

set_option maxHeartbeats 2000000 in
/-- A relation over intervals with a common integer: that one too. -/
theorem telling_meets (op a b c d : Int) (w : World) (L : Laid w) (h7 : 7 ≤ op) (h12 : op ≤ 12) (he : ¬ min b d < max a c) :
    Calls Tryd.prog 24 #[.int .u8 op, .agg #[.int .i64 a, .int .i64 b], .agg #[.int .i64 c, .int .i64 d]] w (fun e w' => Tells w [a, b, max a c] [c, d, max a c] e w') := by
  obtain ⟨i0, hi, hz0, hz1, hz2⟩ := info_parts info64
  have e4 : (op == 4) = false := by simp; omega
  have e17 : (op == 17) = false := by simp; omega
  have er : decide (7 ≤ op ∧ op ≤ 12) = true := by simpa using ⟨h7, h12⟩
  have EM : Hid (meetV a b c d = .agg #[.int .i64 (max a c), .int .i64 (min b d)]) := by show _ = _; rw [meetV, if_neg he]; rfl
  have HL := Lib.hid L
  have d1 : decide (min b d < max a c) = false := by simpa using he
  generalize min b d = q at EM d1
  generalize max a c = p at EM d1
  clear L he h7 h12
  go_enter Tryd.func24, Tryd.ntmps24
  go_wp2
  go_region_held3 (fun w' => w'.cell? ⟨w.heap.size, 0, none⟩ = some (.int .i64 a) ∧ w'.cell? ⟨w.heap.size, 1, none⟩ = some (.int .i64 b) ∧ w'.cell? ⟨w.heap.size + 1, 0, none⟩ = some (.int .i64 c) ∧ w'.cell? ⟨w.heap.size + 1, 1, none⟩ = some (.int .i64 d)) (refine ⟨?_, ?_, ?_, ?_⟩ <;> go_cell) (fail)
  all_goals
    go_wp2_with fail
    refine (relational_any _ _).mono ?_; rintro e w1 ⟨rfl, hb⟩; rw [er]
    have x0 := keepC hb (b := w.heap.size) (o := 0) (v := .int .i64 a) (by go_cell)
    have x1 := keepC hb (b := w.heap.size) (o := 1) (v := .int .i64 b) (by go_cell)
    have x2 := keepC hb (b := w.heap.size + 1) (o := 0) (v := .int .i64 c) (by go_cell)
    have x3 := keepC hb (b := w.heap.size + 1) (o := 1) (v := .int .i64 d) (by go_cell)
    have B1 : Hid (Below w.heap.size w w1) := after (by go_grown) hb
    have HB := Lib.hid hb
    clear hb
    go_wp2_with fail
    refine (meet_any _ _ _ _ _ (HL.out.after B1.out)).mono ?_
    rw [EM.out]
    rintro e w2 ⟨rfl, hb2⟩
    clear x0 x1 x2 x3
    have HB2 := Lib.hid hb2
    clear hb2
    go_wp2_with (go_at_call 18; refine (empty_box _ _ _).mono ?_; rintro e w' ⟨rfl, rfl⟩; rw [d1])
  · have ho : Hid (w2.ownsRow (w.heap.size + 2) 2 1 (.slice (some ⟨w.heap.size + 1 + 1, 0, none⟩) 2 2) 2 [.int .i64 a, .int .i64 b]) := ownsRow_below (ownsRow_below (own_two (heap_third _ _ _ _ _).1 (by omega)) HB.out) HB2.out
    have hy : Hid (w2.ownsRow (w.heap.size + 2) 2 1 (.slice (some ⟨w.heap.size + 1 + 1 + 1, 0, none⟩) 2 2) 2 [.int .i64 c, .int .i64 d]) := ownsRow_below (ownsRow_below (own_two (heap_third _ _ _ _ _).2 (by omega)) HB.out) HB2.out
    have hs : w.heap.size + 4 ≤ w2.heap.size := by have h1 := HB.out.size; have h2 := HB2.out.size; simp at h1; omega
    go_region_held3 (fun w' => w'.cell? ⟨w2.heap.size, 0, none⟩ = some (.int .i64 p)) (first | go_cell | (exact cell_up (by assumption)) | (exact keepG hgY (by first | assumption | go_cell) (by omega)) | (exact keepG hgX (by first | assumption | go_cell) (by omega)))
      (first
        | (refine step_append_lies _ (by rfl) _ _ _ (by rfl) (w.heap.size + 2) 2 i0 _ 1 8 Tryd.underlying45 hi hz0 hz1 hz2 rfl (by omega) (.slice (some ⟨w.heap.size + 1 + 1, 0, none⟩) 2 2) 2 [.int .i64 a, .int .i64 b] (by rfl) ?_ ⟨_, 0, none⟩ 1 1 [.int .i64 p] (by rfl) (by rfl) ?_ (by simp [Value.oneCell']) (by omega) (by unfold maxLen; omega) (by omega) ?_ _ rfl ?_; (focus (repeat' (first | (with_reducible exact ho.out) | (with_reducible exact hy.out) | (with_reducible refine World.ownsRow.alloc ?_ _) | (with_reducible refine World.ownsRow.drew ?_) | (refine World.ownsRow.kept ?_ (by assumption) (Or.inr (by simp [Value.ownBlock])))))); (focus (refine news_one ?_; first | go_cell | (exact keepG hgY (by first | assumption | go_cell) (by omega)))); (focus (first | (simp; omega) | (have := hgY.size; simp at this ⊢; omega))); intro gX capX wX hownX hgX hatX hltX)
        | (refine step_append_lies _ (by rfl) _ _ _ (by rfl) (w.heap.size + 2) 2 i0 _ 1 8 Tryd.underlying45 hi hz0 hz1 hz2 rfl (by omega) (.slice (some ⟨w.heap.size + 1 + 1 + 1, 0, none⟩) 2 2) 2 [.int .i64 c, .int .i64 d] (by rfl) ?_ ⟨_, 0, none⟩ 1 1 [.int .i64 p] (by rfl) (by rfl) ?_ (by simp [Value.oneCell']) (by omega) (by unfold maxLen; omega) (by omega) ?_ _ rfl ?_; (focus (repeat' (first | (with_reducible exact ho.out) | (with_reducible exact hy.out) | (with_reducible refine World.ownsRow.alloc ?_ _) | (with_reducible refine World.ownsRow.drew ?_) | (refine World.ownsRow.kept ?_ (by assumption) (Or.inr (by simp [Value.ownBlock])))))); (focus (refine news_one ?_; first | go_cell | (exact keepG hgX (by first | assumption | go_cell) (by omega)))); (focus (first | (simp; omega) | (have := hgX.size; simp at this ⊢; omega))); intro gY capY wY hownY hgY hatY hltY))
    all_goals
      have ne : gX ≠ w.heap.size + 1 + 1 + 1 := by
        rcases hatX with h | h
        · simp [Value.ownBlock] at h; omega
        · simp at h; omega
      have OY : Hid (wY.ownsRow (w.heap.size + 2) 2 1 (.slice (some ⟨gY, 0, none⟩) 3 capY) 3 [.int .i64 c, .int .i64 d, .int .i64 p]) := hownY
      have OX : Hid (wY.ownsRow (w.heap.size + 2) 2 1 (.slice (some ⟨gX, 0, none⟩) 3 capX) 3 [.int .i64 a, .int .i64 b, .int .i64 p]) := by
        first | exact World.ownsRow.kept (w := wX) hownX hgY (Or.inr (by simpa [Value.ownBlock] using ne)) | exact World.ownsRow.kept (World.ownsRow.alloc hownX _) hgY (Or.inr (by simpa [Value.ownBlock] using ne))
      have B2 : Hid (Below w.heap.size w w2) := after B1.out HB2.out
      have BX : Hid (Below w.heap.size w wX) := by
        refine Below.grown ?_ hgX (by simp; omega) (fun k hk => by simp [Value.ownBlock] at hk; omega)
        (repeat' (first | (with_reducible exact Below.refl _ _) | (with_reducible exact B2.out) | (with_reducible refine boxed ?_ _) | (with_reducible refine Below.drew ?_)))
      have hwx := hgX.size
      simp at hwx
      have BY : Hid (Below w.heap.size w wY) := by
        refine Below.grown ?_ hgY (by first | omega | (simp; omega)) (fun k hk => by simp [Value.ownBlock] at hk; omega)
        (repeat' (first | (with_reducible exact Below.refl _ _) | (with_reducible exact BX.out) | (with_reducible refine boxed ?_ _) | (with_reducible refine Below.drew ?_)))
      clear hownX hownY hgX hgY hatX hatY ne hwx hltX hltY
      go_wp2_with fail
      go_returns
      exact ⟨_, _, _, _, _, _, rfl, ints_three OX.out, ints_three OY.out, BY.out⟩
  · have ho : Hid (w2.ownsRow (w.heap.size + 2) 2 1 (.slice (some ⟨w.heap.size + 1 + 1 + 1, 0, none⟩) 2 2) 2 [.int .i64 a, .int .i64 b]) := ownsRow_below (ownsRow_below (own_two (heap_third _ _ _ _ _).2 (by omega)) HB.out) HB2.out
    have hy : Hid (w2.ownsRow (w.heap.size + 2) 2 1 (.slice (some ⟨w.heap.size + 1 + 1, 0, none⟩) 2 2) 2 [.int .i64 c, .int .i64 d]) := ownsRow_below (ownsRow_below (own_two (heap_third _ _ _ _ _).1 (by omega)) HB.out) HB2.out
    have hs : w.heap.size + 4 ≤ w2.heap.size := by have h1 := HB.out.size; have h2 := HB2.out.size; simp at h1; omega
    go_region_held3 (fun w' => w'.cell? ⟨w2.heap.size, 0, none⟩ = some (.int .i64 p)) (first | go_cell | (exact cell_up (by assumption)) | (exact keepG hgY (by first | assumption | go_cell) (by omega)) | (exact keepG hgX (by first | assumption | go_cell) (by omega)))
      (first
        | (refine step_append_lies _ (by rfl) _ _ _ (by rfl) (w.heap.size + 2) 2 i0 _ 1 8 Tryd.underlying45 hi hz0 hz1 hz2 rfl (by omega) (.slice (some ⟨w.heap.size + 1 + 1 + 1, 0, none⟩) 2 2) 2 [.int .i64 a, .int .i64 b] (by rfl) ?_ ⟨_, 0, none⟩ 1 1 [.int .i64 p] (by rfl) (by rfl) ?_ (by simp [Value.oneCell']) (by omega) (by unfold maxLen; omega) (by omega) ?_ _ rfl ?_; (focus (repeat' (first | (with_reducible exact ho.out) | (with_reducible exact hy.out) | (with_reducible refine World.ownsRow.alloc ?_ _) | (with_reducible refine World.ownsRow.drew ?_) | (refine World.ownsRow.kept ?_ (by assumption) (Or.inr (by simp [Value.ownBlock])))))); (focus (refine news_one ?_; first | go_cell | (exact keepG hgY (by first | assumption | go_cell) (by omega)))); (focus (first | (simp; omega) | (have := hgY.size; simp at this ⊢; omega))); intro gX capX wX hownX hgX hatX hltX)
        | (refine step_append_lies _ (by rfl) _ _ _ (by rfl) (w.heap.size + 2) 2 i0 _ 1 8 Tryd.underlying45 hi hz0 hz1 hz2 rfl (by omega) (.slice (some ⟨w.heap.size + 1 + 1, 0, none⟩) 2 2) 2 [.int .i64 c, .int .i64 d] (by rfl) ?_ ⟨_, 0, none⟩ 1 1 [.int .i64 p] (by rfl) (by rfl) ?_ (by simp [Value.oneCell']) (by omega) (by unfold maxLen; omega) (by omega) ?_ _ rfl ?_; (focus (repeat' (first | (with_reducible exact ho.out) | (with_reducible exact hy.out) | (with_reducible refine World.ownsRow.alloc ?_ _) | (with_reducible refine World.ownsRow.drew ?_) | (refine World.ownsRow.kept ?_ (by assumption) (Or.inr (by simp [Value.ownBlock])))))); (focus (refine news_one ?_; first | go_cell | (exact keepG hgX (by first | assumption | go_cell) (by omega)))); (focus (first | (simp; omega) | (have := hgX.size; simp at this ⊢; omega))); intro gY capY wY hownY hgY hatY hltY))
    all_goals
      have ne : gX ≠ w.heap.size + 1 + 1 := by
        rcases hatX with h | h
        · simp [Value.ownBlock] at h; omega
        · simp at h; omega
      have OY : Hid (wY.ownsRow (w.heap.size + 2) 2 1 (.slice (some ⟨gY, 0, none⟩) 3 capY) 3 [.int .i64 c, .int .i64 d, .int .i64 p]) := hownY
      have OX : Hid (wY.ownsRow (w.heap.size + 2) 2 1 (.slice (some ⟨gX, 0, none⟩) 3 capX) 3 [.int .i64 a, .int .i64 b, .int .i64 p]) := by
        first | exact World.ownsRow.kept (w := wX) hownX hgY (Or.inr (by simpa [Value.ownBlock] using ne)) | exact World.ownsRow.kept (World.ownsRow.alloc hownX _) hgY (Or.inr (by simpa [Value.ownBlock] using ne))
      have B2 : Hid (Below w.heap.size w w2) := after B1.out HB2.out
      have BX : Hid (Below w.heap.size w wX) := by
        refine Below.grown ?_ hgX (by simp; omega) (fun k hk => by simp [Value.ownBlock] at hk; omega)
        (repeat' (first | (with_reducible exact Below.refl _ _) | (with_reducible exact B2.out) | (with_reducible refine boxed ?_ _) | (with_reducible refine Below.drew ?_)))
      have hwx := hgX.size
      simp at hwx
      have BY : Hid (Below w.heap.size w wY) := by
        refine Below.grown ?_ hgY (by first | omega | (simp; omega)) (fun k hk => by simp [Value.ownBlock] at hk; omega)
        (repeat' (first | (with_reducible exact Below.refl _ _) | (with_reducible exact BX.out) | (with_reducible refine boxed ?_ _) | (with_reducible refine Below.drew ?_)))
      clear hownX hownY hgX hgY hatX hatY ne hwx hltX hltY
      go_wp2_with fail
      go_returns
      exact ⟨_, _, _, _, _, _, rfl, ints_three OX.out, ints_three OY.out, BY.out⟩

end Go.Proofs.YtdbfaekdkjclcaaDoor
