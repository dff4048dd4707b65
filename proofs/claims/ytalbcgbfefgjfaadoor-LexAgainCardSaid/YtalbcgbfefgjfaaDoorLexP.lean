
/-
  THE TOKENS OF A TEXT, AS PLAIN MATHEMATICS: what lex.Tokens answers; the tokens of two texts with a line feed between them.
-/
import Derived.Test.YtalbcgbfefgjfaaDoorLexT2
namespace Go.Proofs.YtalbcgbfefgjfaaDoor
open Go Go.RowKit

theorem str_toList (l : List UInt8) : (str l).toList = l := by rw [ByteArray.toList_eq]; rfl
theorem ba_ext {a b : ByteArray} (h : a.toList = b.toList) : a = b := by
  rw [ByteArray.toList_eq, ByteArray.toList_eq] at h
  cases a; cases b
  congr
  exact Array.toList_inj.1 h
theorem str_of (s : ByteArray) : str s.toList = s := ba_ext (str_toList _)

/-- The token that bytes are, at a line. -/
def tokAt (l : List UInt8) (line : Int) : TokR := ⟨tokK (str l), line, tokT (str l), tokN (str l)⟩
def goodB (l : List UInt8) : Bool := tokB (str l)

/-- What reading a text comes to. -/
inductive Rd where
  | ok (l : List TokR)
  | no (line : Nat) (e : Int)
def Rd.and : Rd → (List TokR → Rd) → Rd
  | .ok l, f => f l
  | .no n e, _ => .no n e

/-- No line feed. -/
def inLine (c : UInt8) : Bool := c != 10

/-- The tokens of a text, behind those that were read. -/
def lexF : Nat → List UInt8 → Nat → List TokR → Rd
  | 0, _, _, acc => .ok acc
  | _ + 1, [], _, acc => .ok acc
  | f + 1, c :: r, line, acc =>
    if c = 10 then lexF f r (line + 1) acc else
    if c = 32 then lexF f r line acc else
    if (c :: r).take 2 = [45, 45] then
      if ((c :: r).takeWhile inLine).all printU then lexF f ((c :: r).dropWhile inLine) line acc else .no line 20
    else
      if goodB ((c :: r).take (pieceN (c :: r))) then
        if acc.length = 8192 then .no line 3 else lexF f ((c :: r).drop (pieceN (c :: r))) line (acc ++ [tokAt ((c :: r).take (pieceN (c :: r))) line])
      else .no line 20
def lexL (l : List UInt8) (line : Nat) (acc : List TokR) : Rd := lexF (l.length + 1) l line acc
/-- What Tokens answers. -/
def readL (l : List UInt8) : Rd := if 65536 < l.length then .no 0 3 else lexL l 1 []

theorem pieceN_pos (l : List UInt8) : 1 ≤ pieceN l := by unfold pieceN; split <;> (try split) <;> omega
theorem pieceN_le (l : List UInt8) (h : l ≠ []) : pieceN l ≤ l.length := by
  have h1 : 1 ≤ l.length := by cases l <;> simp_all
  have := wordN_le l
  unfold pieceN
  split
  · exact this
  · split
    · omega
    · exact h1

/-- Fuel does not matter, if there is enough. -/
theorem lexF_fuel : ∀ (f g : Nat) (l : List UInt8) (line : Nat) (acc : List TokR), l.length < f → l.length < g → lexF f l line acc = lexF g l line acc
  | 0, _, l, _, _, h, _ => by omega
  | _ + 1, 0, l, _, _, _, h => by omega
  | f + 1, g + 1, [], line, acc, _, _ => rfl
  | f + 1, g + 1, c :: r, line, acc, hf, hg => by
    simp only [List.length_cons] at hf hg
    have hp := pieceN_pos (c :: r)
    have hd : ((c :: r).drop (pieceN (c :: r))).length ≤ r.length := by rw [List.length_drop, List.length_cons]; omega
    unfold lexF
    split
    · exact lexF_fuel f g r _ _ (by omega) (by omega)
    · rename_i h10
      split
      · exact lexF_fuel f g r _ _ (by omega) (by omega)
      · split
        · split
          · have hw : ((c :: r).dropWhile inLine).length ≤ r.length := by
              rw [List.dropWhile_cons, if_pos (by simpa [inLine] using h10)]
              exact (List.dropWhile_suffix _).length_le
            exact lexF_fuel f g _ _ _ (by omega) (by omega)
          · rfl
        · split
          · split
            · rfl
            · exact lexF_fuel f g _ _ _ (by omega) (by omega)
          · rfl

theorem lexL_of {f : Nat} {l : List UInt8} {line : Nat} {acc : List TokR} (h : l.length < f) : lexF f l line acc = lexL l line acc := lexF_fuel _ _ _ _ _ h (by omega)
theorem lexL_nil (line : Nat) (acc : List TokR) : lexL [] line acc = .ok acc := rfl
theorem lexL_feed (r : List UInt8) (line : Nat) (acc : List TokR) : lexL (10 :: r) line acc = lexL r (line + 1) acc := by
  rw [lexL, lexF, if_pos rfl, lexL_of (by simp)]
theorem lexL_space (r : List UInt8) (line : Nat) (acc : List TokR) : lexL (32 :: r) line acc = lexL r line acc := by
  rw [lexL, lexF, if_neg (by decide), if_pos rfl, lexL_of (by simp)]
theorem lexL_note {l : List UInt8} {line : Nat} {acc : List TokR} (h : l.take 2 = [45, 45]) : lexL l line acc = if (l.takeWhile inLine).all printU then lexL (l.dropWhile inLine) line acc else .no line 20 := by
  cases l with
  | nil => simp at h
  | cons c r =>
    have hc : c = 45 := by simp at h; exact h.1
    have hw : ((c :: r).dropWhile inLine).length ≤ r.length := by
      rw [List.dropWhile_cons, if_pos (by rw [hc]; decide)]
      exact (List.dropWhile_suffix _).length_le
    rw [lexL, lexF, if_neg (by rw [hc]; decide), if_neg (by rw [hc]; decide), if_pos h]
    split
    · rw [lexL_of (by simp; omega)]
    · rfl
theorem lexL_tok {c : UInt8} {r : List UInt8} {line : Nat} {acc : List TokR} (h1 : ¬ c = 10) (h2 : ¬ c = 32) (h3 : ¬ (c :: r).take 2 = [45, 45]) :
    lexL (c :: r) line acc = if goodB ((c :: r).take (pieceN (c :: r))) then if acc.length = 8192 then .no line 3 else lexL ((c :: r).drop (pieceN (c :: r))) line (acc ++ [tokAt ((c :: r).take (pieceN (c :: r))) line]) else .no line 20 := by
  have hp := pieceN_pos (c :: r)
  have hd : ((c :: r).drop (pieceN (c :: r))).length ≤ r.length := by rw [List.length_drop, List.length_cons]; omega
  rw [lexL, lexF, if_neg h1, if_neg h2, if_neg h3]
  split
  · split
    · rfl
    · rw [lexL_of (by simp; omega)]
  · rfl

/-! ### two texts with a line feed between them -/
def feeds (l : List UInt8) : Nat := l.count 10

theorem takeWhile_mid (a b : List UInt8) : (a ++ 10 :: b).takeWhile inLine = a.takeWhile inLine := by
  induction a with
  | nil => rfl
  | cons c r ih => simp only [List.cons_append, List.takeWhile_cons]; split <;> simp [ih]
theorem dropWhile_mid (a b : List UInt8) : (a ++ 10 :: b).dropWhile inLine = a.dropWhile inLine ++ 10 :: b := by
  induction a with
  | nil => rfl
  | cons c r ih => simp only [List.cons_append, List.dropWhile_cons]; split <;> simp [ih]
theorem wordN_mid (a b : List UInt8) : wordN (a ++ 10 :: b) = wordN a := by
  induction a with
  | nil => rfl
  | cons c r ih =>
    simp only [wordN, List.cons_append, List.takeWhile_cons] at ih ⊢
    split
    · simp only [List.length_cons, ih]
    · rfl
theorem symL_no10 : ∀ x ∈ symL, ¬ (10 : UInt8) ∈ x := by decide
theorem pieceN_mid (a b : List UInt8) (h : a ≠ []) : pieceN (a ++ 10 :: b) = pieceN a := by
  unfold pieceN
  rw [wordN_mid]
  match a, h with
  | [c], _ =>
    have hs : symL.contains [c, 10] = false := by
      rw [List.contains_eq_mem, decide_eq_false_iff_not]
      exact fun h => symL_no10 _ h (by simp)
    have hs' : ¬ [c, 10] ∈ symL := by simpa using hs
    simp [hs']
  | c :: d :: r, _ =>
    simp [List.take_succ_cons]

theorem feeds_drop_piece (a : List UInt8) (c : UInt8) (r : List UInt8) (he : a = c :: r) (h : ¬ c = 10) : feeds (a.drop (pieceN a)) = feeds a := by
  have key : ∀ n, (∀ x ∈ a.take n, x ≠ 10) → feeds (a.drop n) = feeds a := fun n hn => by
    have e : feeds a = feeds (a.take n ++ a.drop n) := by rw [List.take_append_drop]
    rw [e, feeds, feeds, List.count_append, List.count_eq_zero_of_not_mem (fun hm => hn _ hm rfl), Nat.zero_add]
  refine key _ ?_
  unfold pieceN
  split
  · intro x hx
    have : x ∈ a.takeWhile wordU := by
      have hp : a.take (wordN a) = a.takeWhile wordU := (List.prefix_iff_eq_take.1 (List.takeWhile_prefix wordU)).symm
      rw [← hp]; exact hx
    have hw := List.all_eq_true.1 (List.all_takeWhile (l := a) (p := wordU)) x this
    intro e; rw [e] at hw; revert hw; decide
  · split
    · rename_i hs
      intro x hx e
      rw [List.contains_eq_mem, decide_eq_true_eq] at hs
      exact symL_no10 _ hs.2 (e ▸ hx)
    · subst he
      intro x hx
      simp at hx
      rw [hx]; exact h

theorem feeds_dropWhile (a : List UInt8) : feeds (a.dropWhile inLine) = feeds a := by
  induction a with
  | nil => rfl
  | cons c r ih =>
    simp only [List.dropWhile_cons]
    split
    · rename_i h
      rw [ih, feeds, feeds, List.count_cons_of_ne (by simpa [inLine] using h)]
    · rfl

theorem take2_mid (a b : List UInt8) : (a ++ 10 :: b).take 2 = [45, 45] ↔ a.take 2 = [45, 45] := by
  match a with
  | [] => simp
  | [c] => simp
  | c :: d :: r => simp

/-- **TWO TEXTS, A LINE FEED BETWEEN THEM.** -/
theorem lex_mid : ∀ (n : Nat) (a b : List UInt8) (line : Nat) (acc : List TokR), a.length ≤ n → lexL (a ++ 10 :: b) line acc = (lexL a line acc).and (fun l => lexL b (line + feeds a + 1) l)
  | n, [], b, line, acc, _ => by
    rw [List.nil_append, lexL_feed, lexL_nil]; rfl
  | 0, c :: r, b, line, acc, h => by simp at h
  | n + 1, c :: r, b, line, acc, h => by
    simp only [List.length_cons] at h
    by_cases h10 : c = 10
    · subst h10
      rw [List.cons_append, lexL_feed, lexL_feed, lex_mid n r b _ _ (by omega)]
      rw [show line + feeds (10 :: r) + 1 = line + 1 + feeds r + 1 by simp [feeds]; omega]
    · by_cases h32 : c = 32
      · subst h32
        rw [List.cons_append, lexL_space, lexL_space, lex_mid n r b _ _ (by omega)]
        rw [show feeds (32 :: r) = feeds r by simp [feeds]]
      · by_cases h2 : (c :: r).take 2 = [45, 45]
        · rw [lexL_note ((take2_mid _ _).2 h2), lexL_note h2, takeWhile_mid, dropWhile_mid]
          have hw : ((c :: r).dropWhile inLine).length ≤ r.length := by
            rw [List.dropWhile_cons, if_pos (by simpa [inLine] using h10)]
            exact (List.dropWhile_suffix _).length_le
          split
          · rw [lex_mid n _ b _ _ (by omega), feeds_dropWhile]
          · rfl
        · have hp := pieceN_pos (c :: r)
          have hd : ((c :: r).drop (pieceN (c :: r))).length ≤ r.length := by rw [List.length_drop, List.length_cons]; omega
          have hm := pieceN_mid (c :: r) b (by simp)
          have hle := pieceN_le (c :: r) (by simp)
          have h2' : ¬ (c :: (r ++ 10 :: b)).take 2 = [45, 45] := fun e => h2 ((take2_mid (c :: r) b).1 e)
          rw [List.cons_append] at hm ⊢
          rw [lexL_tok h10 h32 h2', lexL_tok h10 h32 h2, hm]
          have et : (c :: (r ++ 10 :: b)).take (pieceN (c :: r)) = (c :: r).take (pieceN (c :: r)) := by
            rw [← List.cons_append, List.take_append_of_le_length hle]
          have ed : (c :: (r ++ 10 :: b)).drop (pieceN (c :: r)) = (c :: r).drop (pieceN (c :: r)) ++ 10 :: b := by
            rw [← List.cons_append, List.drop_append_of_le_length hle]
          rw [et, ed]
          split
          · split
            · rfl
            · rw [lex_mid n _ b _ _ (by omega), feeds_drop_piece (c :: r) c r rfl h10]
          · rfl

end Go.Proofs.YtalbcgbfefgjfaaDoor
