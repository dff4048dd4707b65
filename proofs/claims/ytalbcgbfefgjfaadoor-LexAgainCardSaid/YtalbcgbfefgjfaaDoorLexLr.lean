
/-
  THE LAW LexReads: its walk.
-/
import Derived.Test.YtalbcgbfefgjfaaDoorLexN3
import Derived.Test.YtalbcgbfefgjfaaDoorLexAk
import Derived.Test.YtalbcgbfefgjfaaDoorLexE
namespace Go.Proofs.YtalbcgbfefgjfaaDoor
open Go Go.RowKit

theorem tokEq_refl (x : TokR) : tokEq x x = true := by unfold tokEq; simp
theorem eq_refl : ∀ xs : List TokR, allB tokEq xs xs = true
  | [] => rfl
  | x :: xs => by unfold allB; rw [tokEq_refl, eq_refl xs]; rfl

theorem toks_le : ∀ (f : Nat) (l : List UInt8) (line : Nat) (acc : List TokR), acc.length ≤ 8192 → (lexF f l line acc).toks.length ≤ 8192
  | 0, _, _, acc, h => h
  | _ + 1, [], _, acc, h => h
  | f + 1, c :: r, line, acc, h => by
    unfold lexF
    split
    · exact toks_le f _ _ _ h
    · split
      · exact toks_le f _ _ _ h
      · split
        · split
          · exact toks_le f _ _ _ h
          · exact Nat.zero_le _
        · split
          · split
            · exact Nat.zero_le _
            · exact toks_le f _ _ _ (by simp; omega)
          · exact Nat.zero_le _
theorem readL_le (l : List UInt8) : (readL l).toks.length ≤ 8192 := by
  unfold readL
  split
  · exact Nat.zero_le _
  · exact toks_le _ _ _ _ (Nat.zero_le _)

set_option maxRecDepth 100000 in
theorem law_lexReads (s : ByteArray) (w : World) (L : LibOk w) (hz : s.size ≤ 9223372036854775807) : Calls Tryd.prog 5 #[.string s] w (Gives w (.bool true)) := by
  have HL := Lib.hid L
  have HZ := Lib.hid hz
  clear hz L
  have HB := Lib.hid (Below.refl w.heap.size w)
  by_cases hlong : 70000 < s.size
  · go_enter Tryd.func5, Tryd.ntmps5
    go_wp2_with (first
      | (go_at_call 19; refine (awake_any _ HL.out).mono ?_; rintro e w1 ⟨rfl, hb⟩; have HB := Lib.hid hb; clear hb))
    go_returns
    exact ⟨rfl, HB.out⟩
  · have hs : s.size ≤ 140737488355328 := by omega
    have hsh : s.size ≤ 70000 := by omega
    obtain ⟨r, hr⟩ : ∃ r, readL s.toList = r := ⟨_, rfl⟩
    have hle := readL_le s.toList
    rw [hr] at hle
    obtain ⟨n, hn⟩ : ∃ n, r.toks.length = n := ⟨_, rfl⟩
    obtain ⟨ln, hln⟩ : ∃ ln, r.line = ln := ⟨_, rfl⟩
    obtain ⟨er, her⟩ : ∃ er, r.err = er := ⟨_, rfl⟩
    rw [hn] at hle
    have HR := Lib.hid hr
    have HN := Lib.hid hn
    have HLN := Lib.hid hln
    have HER := Lib.hid her
    have HS := Lib.hid hs
    clear hr hn hln her hs hlong
    go_enter Tryd.func5, Tryd.ntmps5
    go_wp2_with (first
      | (go_at_call 24; refine (tokens_reads _ _ HL.out.len HS.out).mono ?_; rw [HR.out]; rintro e w1 ⟨q1, c1, rfl, hrow, hb⟩; rw [HN.out] at hrow; have HT1 := Lib.hid (toks_of_row hrow HN.out); have HB1 := Lib.hid hb; rw [HN.out, HLN.out, HER.out]; clear hrow hb)
      | (go_at_call 25; refine (rtokens_any _ _ HS.out).mono ?_; rw [HR.out]; rintro e w2 ⟨q2, c2, rfl, hrow, hb⟩; rw [HN.out] at hrow; have HT2 := Lib.hid (toks_of_row hrow HN.out); have HT1' := Lib.hid (HT1.out.below hb); have HB2 := Lib.hid (after HB1.out hb); rw [HN.out, HLN.out, HER.out]; clear hrow hb)
      | (go_at_call 26; refine (equal_any _ _ _ _ _ _ _ _ _ HT1'.out HT2.out (by omega) (by omega)).mono ?_; rw [eq_refl]; rintro e w3 ⟨rfl, hb⟩; have HB3 := Lib.hid (after HB2.out hb); clear hb)
      | (go_at_call 19; refine (awake_any _ (HL.out.below HB3.out)).mono ?_; rintro e w4 ⟨rfl, hb⟩; have HB4 := Lib.hid (after HB3.out hb); clear hb))
    go_returns
    exact ⟨rfl, HB4.out⟩

end Go.Proofs.YtalbcgbfefgjfaaDoor
