
/-
  THE REFERENCE's close.
-/
import Derived.Test.YtalbcgbfefgjfaaDoorLexT2
namespace Go.Proofs.YtalbcgbfefgjfaaDoor
open Go Go.RowKit

/-- WHAT close's OWN BLOCKS HOLD: both tokens. -/
structure TBox (w : World) (ak al : Int) (s : ByteArray) (an bk bl : Int) (t : ByteArray) (bn : Int) (W : World) : Prop where
  a0 : W.cell? ⟨w.heap.size, 0, none⟩ = some (.int .u8 ak)
  a1 : W.cell? ⟨w.heap.size, 1, none⟩ = some (.int .i64 al)
  a2 : W.cell? ⟨w.heap.size, 2, none⟩ = some (.string s)
  a3 : W.cell? ⟨w.heap.size, 3, none⟩ = some (.int .i64 an)
  b0 : W.cell? ⟨w.heap.size + 1, 0, none⟩ = some (.int .u8 bk)
  b1 : W.cell? ⟨w.heap.size + 1, 1, none⟩ = some (.int .i64 bl)
  b2 : W.cell? ⟨w.heap.size + 1, 2, none⟩ = some (.string t)
  b3 : W.cell? ⟨w.heap.size + 1, 3, none⟩ = some (.int .i64 bn)
  bel : Below w.heap.size w W
theorem TBox.below {w : World} {ak al : Int} {s : ByteArray} {an bk bl : Int} {t : ByteArray} {bn : Int} {W w1 : World} (h : TBox w ak al s an bk bl t bn W) (hb : Below W.heap.size W w1) : TBox w ak al s an bk bl t bn w1 :=
  ⟨keepA' hb h.a0, keepA' hb h.a1, keepA' hb h.a2, keepA' hb h.a3, keepA' hb h.b0, keepA' hb h.b1, keepA' hb h.b2, keepA' hb h.b3, after h.bel hb⟩
theorem TBox.start (w : World) (ak al : Int) (s : ByteArray) (an bk bl : Int) (t : ByteArray) (bn : Int) : TBox w ak al s an bk bl t bn ((w.alloc (.cells #[.int .u8 ak, .int .i64 al, .string s, .int .i64 an] 27)).alloc (.cells #[.int .u8 bk, .int .i64 bl, .string t, .int .i64 bn] 27)) :=
  ⟨by go_cell, by go_cell, by go_cell, by go_cell, by go_cell, by go_cell, by go_cell, by go_cell, by (repeat' (first | (with_reducible exact Below.refl _ _) | (with_reducible assumption) | (with_reducible refine boxed ?_ _) | (with_reducible refine Below.drew ?_) | (with_reducible refine after ?_ (by assumption))))⟩

set_option maxRecDepth 100000 in
set_option maxHeartbeats 8000000 in
theorem rclose_any (ak al : Int) (s : ByteArray) (an bk bl : Int) (t : ByteArray) (bn : Int) (w : World) :
    Calls Tryd.prog 80 #[.agg #[.int .u8 ak, .int .i64 al, .string s, .int .i64 an], .agg #[.int .u8 bk, .int .i64 bl, .string t, .int .i64 bn]] w (Gives w (.bool (closeB ak s bk t))) := by
  unfold closeB
  obtain ⟨r1, h1⟩ : ∃ r, isB bk t ⟨#[44]⟩ = r := ⟨_, rfl⟩
  obtain ⟨r2, h2⟩ : ∃ r, isB bk t ⟨#[59]⟩ = r := ⟨_, rfl⟩
  obtain ⟨r3, h3⟩ : ∃ r, isB bk t ⟨#[41]⟩ = r := ⟨_, rfl⟩
  obtain ⟨r4, h4⟩ : ∃ r, isB bk t ⟨#[39]⟩ = r := ⟨_, rfl⟩
  obtain ⟨r5, h5⟩ : ∃ r, isB ak s ⟨#[40]⟩ = r := ⟨_, rfl⟩
  obtain ⟨r6, h6⟩ : ∃ r, isB ak s ⟨#[39]⟩ = r := ⟨_, rfl⟩
  obtain ⟨r7, h7⟩ : ∃ r, isB ak s ⟨#[46]⟩ = r := ⟨_, rfl⟩
  obtain ⟨r8, h8⟩ : ∃ r, isB bk t ⟨#[46]⟩ = r := ⟨_, rfl⟩
  obtain ⟨r9, h9⟩ : ∃ r, isB bk t ⟨#[46, 46]⟩ = r := ⟨_, rfl⟩
  obtain ⟨r10, h10⟩ : ∃ r, isB ak s ⟨#[46, 46]⟩ = r := ⟨_, rfl⟩
  rw [h1, h2, h3, h4, h5, h6, h7, h8, h9, h10]
  have H1 := Lib.hid h1
  have H2 := Lib.hid h2
  have H3 := Lib.hid h3
  have H4 := Lib.hid h4
  have H5 := Lib.hid h5
  have H6 := Lib.hid h6
  have H7 := Lib.hid h7
  have H8 := Lib.hid h8
  have H9 := Lib.hid h9
  have H10 := Lib.hid h10
  clear h1 h2 h3 h4 h5 h6 h7 h8 h9 h10
  cases r1
  · cases r2
    · cases r3
      · cases r4
        · cases r5
          · cases r6
            · cases r7
              all_goals cases r8
              all_goals cases r9
              all_goals cases r10
              all_goals
                have HB := Lib.hid (TBox.start w ak al s an bk bl t bn)
                go_enter Tryd.func80, Tryd.ntmps80
                go_wp2_with (go_at_call 95; refine (ris_any _ _ _ _ _ _).mono ?_; (first | rw [H1.out] | rw [H2.out] | rw [H3.out] | rw [H4.out] | rw [H5.out] | rw [H6.out] | rw [H7.out] | rw [H8.out] | rw [H9.out] | rw [H10.out]); rintro e w1 ⟨rfl, hb⟩; have HB := Lib.hid (HB.out.below hb); clear hb; obtain ⟨_, _, _, _, _, _, _, _, _⟩ := HB.out)
                go_returns
                exact ⟨rfl, HB.out.bel⟩
            · have HB := Lib.hid (TBox.start w ak al s an bk bl t bn)
              go_enter Tryd.func80, Tryd.ntmps80
              go_wp2_with (go_at_call 95; refine (ris_any _ _ _ _ _ _).mono ?_; (first | rw [H1.out] | rw [H2.out] | rw [H3.out] | rw [H4.out] | rw [H5.out] | rw [H6.out] | rw [H7.out] | rw [H8.out] | rw [H9.out] | rw [H10.out]); rintro e w1 ⟨rfl, hb⟩; have HB := Lib.hid (HB.out.below hb); clear hb; obtain ⟨_, _, _, _, _, _, _, _, _⟩ := HB.out)
              go_returns
              exact ⟨rfl, HB.out.bel⟩
          · have HB := Lib.hid (TBox.start w ak al s an bk bl t bn)
            go_enter Tryd.func80, Tryd.ntmps80
            go_wp2_with (go_at_call 95; refine (ris_any _ _ _ _ _ _).mono ?_; (first | rw [H1.out] | rw [H2.out] | rw [H3.out] | rw [H4.out] | rw [H5.out] | rw [H6.out] | rw [H7.out] | rw [H8.out] | rw [H9.out] | rw [H10.out]); rintro e w1 ⟨rfl, hb⟩; have HB := Lib.hid (HB.out.below hb); clear hb; obtain ⟨_, _, _, _, _, _, _, _, _⟩ := HB.out)
            go_returns
            exact ⟨rfl, HB.out.bel⟩
        · have HB := Lib.hid (TBox.start w ak al s an bk bl t bn)
          go_enter Tryd.func80, Tryd.ntmps80
          go_wp2_with (go_at_call 95; refine (ris_any _ _ _ _ _ _).mono ?_; (first | rw [H1.out] | rw [H2.out] | rw [H3.out] | rw [H4.out] | rw [H5.out] | rw [H6.out] | rw [H7.out] | rw [H8.out] | rw [H9.out] | rw [H10.out]); rintro e w1 ⟨rfl, hb⟩; have HB := Lib.hid (HB.out.below hb); clear hb; obtain ⟨_, _, _, _, _, _, _, _, _⟩ := HB.out)
          go_returns
          exact ⟨rfl, HB.out.bel⟩
      · have HB := Lib.hid (TBox.start w ak al s an bk bl t bn)
        go_enter Tryd.func80, Tryd.ntmps80
        go_wp2_with (go_at_call 95; refine (ris_any _ _ _ _ _ _).mono ?_; (first | rw [H1.out] | rw [H2.out] | rw [H3.out] | rw [H4.out] | rw [H5.out] | rw [H6.out] | rw [H7.out] | rw [H8.out] | rw [H9.out] | rw [H10.out]); rintro e w1 ⟨rfl, hb⟩; have HB := Lib.hid (HB.out.below hb); clear hb; obtain ⟨_, _, _, _, _, _, _, _, _⟩ := HB.out)
        go_returns
        exact ⟨rfl, HB.out.bel⟩
    · have HB := Lib.hid (TBox.start w ak al s an bk bl t bn)
      go_enter Tryd.func80, Tryd.ntmps80
      go_wp2_with (go_at_call 95; refine (ris_any _ _ _ _ _ _).mono ?_; (first | rw [H1.out] | rw [H2.out] | rw [H3.out] | rw [H4.out] | rw [H5.out] | rw [H6.out] | rw [H7.out] | rw [H8.out] | rw [H9.out] | rw [H10.out]); rintro e w1 ⟨rfl, hb⟩; have HB := Lib.hid (HB.out.below hb); clear hb; obtain ⟨_, _, _, _, _, _, _, _, _⟩ := HB.out)
      go_returns
      exact ⟨rfl, HB.out.bel⟩
  · have HB := Lib.hid (TBox.start w ak al s an bk bl t bn)
    go_enter Tryd.func80, Tryd.ntmps80
    go_wp2_with (go_at_call 95; refine (ris_any _ _ _ _ _ _).mono ?_; (first | rw [H1.out] | rw [H2.out] | rw [H3.out] | rw [H4.out] | rw [H5.out] | rw [H6.out] | rw [H7.out] | rw [H8.out] | rw [H9.out] | rw [H10.out]); rintro e w1 ⟨rfl, hb⟩; have HB := Lib.hid (HB.out.below hb); clear hb; obtain ⟨_, _, _, _, _, _, _, _, _⟩ := HB.out)
    go_returns
    exact ⟨rfl, HB.out.bel⟩

end Go.Proofs.YtalbcgbfefgjfaaDoor
