
/-
  THE LAW LexWords: its walk.
-/
import Derived.Test.YtfcinienehpkjaaDoorLexAk
import Derived.Test.YtfcinienehpkjaaDoorLexS
namespace Go.Proofs.YtfcinienehpkjaaDoor
open Go Go.RowKit

set_option maxRecDepth 100000 in
theorem law_lexWords (s : ByteArray) (w : World) (L : LibOk w) (hz : s.size ≤ 9223372036854775807) : Calls Tryd.prog 3 #[.string s] w (Gives w (.bool true)) := by
  have HL := Lib.hid L
  have HZ := Lib.hid hz
  obtain ⟨b1, h1⟩ : ∃ b, nameB s.toList = b := ⟨_, rfl⟩
  obtain ⟨b2, h2⟩ : ∃ b, keyB s = b := ⟨_, rfl⟩
  obtain ⟨b3, h3⟩ : ∃ b, symB s = b := ⟨_, rfl⟩
  have H1 := Lib.hid h1
  have H2 := Lib.hid h2
  have H3 := Lib.hid h3
  have HB := Lib.hid (Below.refl w.heap.size w)
  clear hz L h1 h2 h3
  cases b1
  all_goals cases b2
  all_goals cases b3
  all_goals
    go_enter Tryd.func3, Tryd.ntmps3
    go_wp2_with (first
      | (go_at_call 13; refine (name_any _ _ HZ.out).mono ?_; rw [H1.out]; rintro e w1 ⟨rfl, hb⟩; have HB := Lib.hid (after HB.out hb); clear hb)
      | (go_at_call 14; refine (rname_any _ _ HZ.out).mono ?_; rw [H1.out]; rintro e w1 ⟨rfl, hb⟩; have HB := Lib.hid (after HB.out hb); clear hb)
      | (go_at_call 15; refine (key_any _ _).mono ?_; rw [H2.out]; rintro e w1 ⟨rfl, rfl⟩)
      | (go_at_call 16; refine (rkey_any _ _).mono ?_; rw [H2.out]; rintro e w1 ⟨rfl, hb⟩; have HB := Lib.hid (after HB.out hb); clear hb)
      | (go_at_call 17; refine (symbol_any _ _).mono ?_; rw [H3.out]; rintro e w1 ⟨rfl, rfl⟩)
      | (go_at_call 18; refine (rsymbol_any _ _).mono ?_; rw [H3.out]; rintro e w1 ⟨rfl, hb⟩; have HB := Lib.hid (after HB.out hb); clear hb)
      | (go_at_call 19; refine (awake_any _ (HL.out.below HB.out)).mono ?_; rintro e w1 ⟨rfl, hb⟩; have HB := Lib.hid (after HB.out hb); clear hb))
    go_returns
    exact ⟨rfl, HB.out⟩

end Go.Proofs.YtfcinienehpkjaaDoor
