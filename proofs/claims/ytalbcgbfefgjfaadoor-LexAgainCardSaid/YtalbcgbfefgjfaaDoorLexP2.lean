
/-
  THE TOKENS OF A TEXT, LINE BY LINE: the pieces of a line in their order; the lines of a text.
-/
import Derived.Test.YtalbcgbfefgjfaaDoorLexP
import Derived.Lib.SplitLaws
import Derived.Lib.Split
namespace Go.Proofs.YtalbcgbfefgjfaaDoor
open Go Go.RowKit

abbrev Item := TokR × Bool
def noTok : TokR := ⟨0, 0, ⟨#[]⟩, 0⟩
def itemOf (l : List UInt8) : Item := (tokAt l 0, goodB l)
def itemsF : Nat → List UInt8 → List Item
  | 0, _ => []
  | _ + 1, [] => []
  | f + 1, c :: r =>
    if c = 32 then itemsF f r else
    if (c :: r).take 2 = [45, 45] then (if (c :: r).all printU then [] else [(noTok, false)])
    else itemOf ((c :: r).take (pieceN (c :: r))) :: itemsF f ((c :: r).drop (pieceN (c :: r)))
def itemsL (l : List UInt8) : List Item := itemsF (l.length + 1) l

theorem itemsF_fuel : ∀ (f g : Nat) (l : List UInt8), l.length < f → l.length < g → itemsF f l = itemsF g l
  | 0, _, l, h, _ => by omega
  | _ + 1, 0, l, _, h => by omega
  | f + 1, g + 1, [], _, _ => rfl
  | f + 1, g + 1, c :: r, hf, hg => by
    simp only [List.length_cons] at hf hg
    have hp := pieceN_pos (c :: r)
    have hd : ((c :: r).drop (pieceN (c :: r))).length ≤ r.length := by rw [List.length_drop, List.length_cons]; omega
    unfold itemsF
    split
    · exact itemsF_fuel f g r (by omega) (by omega)
    · split
      · rfl
      · rw [itemsF_fuel f g _ (by omega) (by omega)]
theorem itemsL_of {f : Nat} {l : List UInt8} (h : l.length < f) : itemsF f l = itemsL l := itemsF_fuel _ _ _ h (by omega)
theorem itemsL_nil : itemsL [] = [] := rfl
theorem itemsL_space (r : List UInt8) : itemsL (32 :: r) = itemsL r := by
  rw [itemsL, itemsF, if_pos rfl, itemsL_of (by simp)]
theorem itemsL_note {l : List UInt8} (h : l.take 2 = [45, 45]) : itemsL l = if l.all printU then [] else [(noTok, false)] := by
  cases l with
  | nil => simp at h
  | cons c r =>
    have hc : c = 45 := by simp at h; exact h.1
    rw [itemsL, itemsF, if_neg (by rw [hc]; decide), if_pos h]
theorem itemsL_tok {c : UInt8} {r : List UInt8} (h2 : ¬ c = 32) (h3 : ¬ (c :: r).take 2 = [45, 45]) :
    itemsL (c :: r) = itemOf ((c :: r).take (pieceN (c :: r))) :: itemsL ((c :: r).drop (pieceN (c :: r))) := by
  have hp := pieceN_pos (c :: r)
  have hd : ((c :: r).drop (pieceN (c :: r))).length ≤ r.length := by rw [List.length_drop, List.length_cons]; omega
  rw [itemsL, itemsF, if_neg h2, if_neg h3, itemsL_of (by simp; omega)]

/-- The tokens of pieces, behind those that were read. -/
def foldI : List Item → Nat → List TokR → Rd
  | [], _, acc => .ok acc
  | (t, b) :: xs, line, acc => if b then if acc.length = 8192 then .no line 3 else foldI xs line (acc ++ [{ t with l := line }]) else .no line 20

theorem takeWhile_line {l : List UInt8} (h : ∀ x ∈ l, x ≠ 10) : l.takeWhile inLine = l := by
  induction l with
  | nil => rfl
  | cons c r ih => rw [List.takeWhile_cons, if_pos (by simpa [inLine] using h c (by simp)), ih (fun x hx => h x (by simp [hx]))]
theorem dropWhile_line {l : List UInt8} (h : ∀ x ∈ l, x ≠ 10) : l.dropWhile inLine = [] := by
  induction l with
  | nil => rfl
  | cons c r ih => rw [List.dropWhile_cons, if_pos (by simpa [inLine] using h c (by simp)), ih (fun x hx => h x (by simp [hx]))]

/-- **A LINE: its pieces, one after the other.** -/
theorem lex_line : ∀ (n : Nat) (l : List UInt8) (line : Nat) (acc : List TokR), l.length ≤ n → (∀ x ∈ l, x ≠ 10) → lexL l line acc = foldI (itemsL l) line acc
  | _, [], line, acc, _, _ => rfl
  | 0, c :: r, line, acc, h, _ => by simp at h
  | n + 1, c :: r, line, acc, h, hn => by
    simp only [List.length_cons] at h
    have h10 : ¬ c = 10 := hn c (by simp)
    by_cases h32 : c = 32
    · subst h32
      rw [lexL_space, itemsL_space, lex_line n r _ _ (by omega) (fun x hx => hn x (by simp [hx]))]
    · by_cases h2 : (c :: r).take 2 = [45, 45]
      · rw [lexL_note h2, itemsL_note h2, takeWhile_line hn, dropWhile_line hn, lexL_nil]
        split
        · rfl
        · simp [foldI]
      · have hp := pieceN_pos (c :: r)
        have hd : ((c :: r).drop (pieceN (c :: r))).length ≤ r.length := by rw [List.length_drop, List.length_cons]; omega
        rw [lexL_tok h10 h32 h2, itemsL_tok h32 h2, itemOf, foldI]
        split
        · split
          · rfl
          · rw [lex_line n _ _ _ (by omega) (fun x hx => hn x (List.mem_of_mem_drop hx))]
            rfl
        · rfl

/-- The lines of a text. -/
def linesL : List UInt8 → List (List UInt8)
  | [] => [[]]
  | c :: r => if c = 10 then [] :: linesL r else match linesL r with
    | x :: xs => (c :: x) :: xs
    | [] => [[c]]
theorem linesL_ne (l : List UInt8) : linesL l ≠ [] := by
  cases l with
  | nil => simp [linesL]
  | cons c r => unfold linesL; split <;> (try split) <;> simp
theorem linesL_one {l : List UInt8} (h : ∀ x ∈ l, x ≠ 10) : linesL l = [l] := by
  induction l with
  | nil => rfl
  | cons c r ih => rw [linesL, if_neg (h c (by simp)), ih (fun x hx => h x (by simp [hx]))]
theorem linesL_feed (a b : List UInt8) (h : ∀ x ∈ a, x ≠ 10) : linesL (a ++ 10 :: b) = a :: linesL b := by
  induction a with
  | nil => simp [linesL]
  | cons c r ih => rw [List.cons_append, linesL, if_neg (h c (by simp)), ih (fun x hx => h x (by simp [hx]))]
theorem linesL_flat : ∀ l : List UInt8, ∀ x ∈ linesL l, ∀ c ∈ x, c ≠ 10
  | [], x, hx, c, hc => by simp [linesL] at hx; subst hx; simp at hc
  | d :: r, x, hx, c, hc => by
    rw [linesL] at hx
    split at hx
    · rcases List.mem_cons.1 hx with rfl | hx
      · simp at hc
      · exact linesL_flat r x hx c hc
    · rename_i hd
      split at hx
      · rename_i y ys hy
        rcases List.mem_cons.1 hx with rfl | hx
        · rcases List.mem_cons.1 hc with rfl | hc
          · exact hd
          · exact linesL_flat r y (by rw [hy]; simp) c hc
        · exact linesL_flat r x (by rw [hy]; simp [hx]) c hc
      · rename_i hy
        exact absurd hy (linesL_ne r)
theorem linesL_le : ∀ l : List UInt8, ∀ x ∈ linesL l, x.length ≤ l.length
  | [], x, hx => by simp [linesL] at hx; subst hx; simp
  | d :: r, x, hx => by
    rw [linesL] at hx
    rw [List.length_cons]
    split at hx
    · rcases List.mem_cons.1 hx with rfl | hx
      · simp
      · have := linesL_le r x hx; omega
    · split at hx
      · rename_i y ys hy
        rcases List.mem_cons.1 hx with rfl | hx
        · have := linesL_le r y (by rw [hy]; simp)
          simp; omega
        · have := linesL_le r x (by rw [hy]; simp [hx]); omega
      · rename_i hy
        exact absurd hy (linesL_ne r)
/-- Some byte is a line feed: the part ahead of the first one. -/
theorem first_feed : ∀ l : List UInt8, 10 ∈ l → ∃ a b, l = a ++ 10 :: b ∧ ∀ x ∈ a, x ≠ 10
  | [], h => by simp at h
  | c :: r, h => by
    by_cases hc : c = 10
    · exact ⟨[], r, by rw [hc]; rfl, by simp⟩
    · obtain ⟨a, b, e, ha⟩ := first_feed r (by simpa [Ne.symm hc] using h)
      exact ⟨c :: a, b, by rw [e]; rfl, fun x hx => by
        rcases List.mem_cons.1 hx with rfl | hx
        · exact hc
        · exact ha x hx⟩

/-- The tokens of lines, behind those that were read; the first one has the number line + 1. -/
def foldLines : List (List UInt8) → Nat → List TokR → Rd
  | [], _, acc => .ok acc
  | x :: xs, line, acc => (foldI (itemsL x) (line + 1) acc).and fun l => foldLines xs (line + 1) l

theorem lex_lines : ∀ (n : Nat) (l : List UInt8) (line : Nat) (acc : List TokR), l.length ≤ n → lexL l (line + 1) acc = foldLines (linesL l) line acc := by
  intro n
  induction n with
  | zero =>
    intro l line acc h
    obtain rfl : l = [] := List.length_eq_zero_iff.1 (by omega)
    rfl
  | succ n ih =>
    intro l line acc h
    by_cases h10 : 10 ∈ l
    · obtain ⟨a, b, rfl, ha⟩ := first_feed l h10
      rw [linesL_feed a b ha, lex_mid a.length a b _ _ (Nat.le_refl _), lex_line a.length a _ _ (Nat.le_refl _) ha, foldLines]
      have e : feeds a = 0 := List.count_eq_zero_of_not_mem (fun hm => ha _ hm rfl)
      rw [e]
      congr 1
      funext l'
      rw [List.length_append, List.length_cons] at h
      exact ih b _ _ (by omega)
    · have hn : ∀ x ∈ l, x ≠ 10 := fun x hx e => h10 (e ▸ hx)
      rw [linesL_one hn, foldLines, lex_line l.length l _ _ (Nat.le_refl _) hn]
      cases foldI (itemsL l) (line + 1) acc <;> rfl

/-! ### strings.Split at a line feed -/
theorem index_feed_none {l : List UInt8} (h : ∀ x ∈ l, x ≠ 10) : Lib.index l [10] = -1 := by
  induction l with
  | nil => rfl
  | cons c r ih =>
    have hc := h c (by simp)
    rw [Lib.index, ih (fun x hx => h x (by simp [hx]))]
    simp [Ne.symm hc]
theorem index_feed_some (a b : List UInt8) (h : ∀ x ∈ a, x ≠ 10) : Lib.index (a ++ 10 :: b) [10] = a.length := by
  induction a with
  | nil => simp [Lib.index]
  | cons c r ih =>
    have hc := h c (by simp)
    rw [List.cons_append, Lib.index, ih (fun x hx => h x (by simp [hx]))]
    have h1 : ([10] : List UInt8).isPrefixOf (c :: (r ++ 10 :: b)) = false := by simp [List.isPrefixOf, Ne.symm hc]
    have h2 : (((r.length : Int)) == -1) = false := beq_eq_false_iff_ne.2 (by omega)
    rw [h1, h2]
    simp
theorem split_feeds : ∀ (n : Nat) (l : List UInt8), l.count 10 = n → Lib.splitK [10] 0 n l = linesL l := by
  intro n
  induction n with
  | zero =>
    intro l h
    rw [linesL_one (fun x hx e => by rw [e] at hx; exact absurd h (Nat.pos_iff_ne_zero.1 (List.count_pos_iff.2 hx)))]
    rfl
  | succ n ih =>
    intro l h
    have h10 : 10 ∈ l := List.count_pos_iff.1 (by omega)
    obtain ⟨a, b, rfl, ha⟩ := first_feed l h10
    have ec : b.count 10 = n := by
      rw [List.count_append, List.count_cons_self, List.count_eq_zero_of_not_mem (fun hm => ha _ hm rfl)] at h
      omega
    rw [linesL_feed a b ha, ← ih b ec, Lib.splitK, index_feed_some a b ha]
    have h2 : (((a.length : Int)) == -1) = false := beq_eq_false_iff_ne.2 (by omega)
    rw [h2]
    have e1 : (a ++ 10 :: b).drop (a.length + 1) = b := by rw [List.drop_append, List.drop_eq_nil_of_le (by omega)]; simp
    simp [e1]
theorem linesL_length (l : List UInt8) : (linesL l).length = feeds l + 1 := by
  induction l with
  | nil => rfl
  | cons c r ih =>
    rw [linesL]
    by_cases hc : c = 10
    · subst hc
      simp [feeds] at ih ⊢
      omega
    · rw [if_neg hc]
      have e : feeds (c :: r) = feeds r := by simp [feeds, hc]
      rw [e]
      cases hl : linesL r with
      | nil => exact absurd hl (linesL_ne r)
      | cons x xs => rw [hl] at ih; simpa using ih

end Go.Proofs.YtalbcgbfefgjfaaDoor
