
/-
  HOW DIGITS ARE READ, as plain mathematics.
-/
import Derived.Test.YtalbcgbfefgjfaaDoorLexB1
import Derived.Test.YtalbcgbfefgjfaaDoorLexJs
namespace Go.Proofs.YtalbcgbfefgjfaaDoor
open Go Go.RowKit

theorem wordN_app {D R : List UInt8} (hD : ∀ c ∈ D, wordU c = true) (hR : R.takeWhile wordU = []) : wordN (D ++ R) = D.length := by
  unfold wordN
  rw [List.takeWhile_append_of_pos hD, hR, List.append_nil]
/-- A word, and what comes behind it. -/
theorem lex_word {D R : List UInt8} {line : Nat} {acc : List TokR} (hD : ∀ c ∈ D, wordU c = true) (hne : D ≠ []) (hR : R.takeWhile wordU = []) :
    lexL (D ++ R) line acc = if goodB D then if acc.length = 8192 then .no line 3 else lexL R line (acc ++ [tokAt D line]) else .no line 20 := by
  have hw := wordN_app hD hR
  have hl : 1 ≤ D.length := by cases D with | nil => exact absurd rfl hne | cons c r => simp
  have hp : pieceN (D ++ R) = D.length := by rw [← hw]; exact piece_word (by omega)
  have ht : (D ++ R).take (pieceN (D ++ R)) = D := by rw [hp, List.take_left]
  have hd : (D ++ R).drop (pieceN (D ++ R)) = R := by rw [hp, List.drop_left]
  cases D with
  | nil => exact absurd rfl hne
  | cons c r =>
    have hc := hD c (by simp)
    have h1 : ¬ c = 10 := fun e => by subst e; revert hc; decide
    have h2 : ¬ c = 32 := fun e => by subst e; revert hc; decide
    have h45 : ¬ c = 45 := fun e => by subst e; revert hc; decide
    have h3 : ¬ (c :: (r ++ R)).take 2 = [45, 45] := fun e => by
      rw [List.take_succ_cons, List.cons.injEq] at e; exact h45 e.1
    rw [List.cons_append] at ht hd ⊢
    rw [lexL_tok h1 h2 h3, ht, hd]

/-! ### digits -/
theorem digits_head {D : List UInt8} {T : List UInt8} (h : D.all digitU = true) (hne : D ≠ []) : ∃ c r, D ++ T = c :: r ∧ digitB c.toNat = true ∧ letterB c.toNat = false := by
  cases D with
  | nil => exact absurd rfl hne
  | cons c r =>
    have hc : digitB c.toNat = true := List.all_eq_true.1 h c (by simp)
    refine ⟨c, r ++ T, rfl, hc, ?_⟩
    have := (digitU_iff c).1 hc
    exact decide_eq_false (by omega)
theorem digits_kind {D T : List UInt8} (h : D.all digitU = true) (hne : D ≠ []) : kindL (D ++ T) = if litB (D ++ T) = true then 3 else 0 := by
  obtain ⟨c, r, he, hc, hlet⟩ := digits_head (T := T) h hne
  rw [he]
  unfold kindL
  rw [not_name hlet, not_key hlet, not_sym (digit_word hc)]
  rfl
theorem decN_zero (l : List UInt8) : decN (48 :: l) = decN l := rfl
theorem decN_zeros (l : List UInt8) : ∀ z, decN (List.replicate z 48 ++ l) = decN l
  | 0 => rfl
  | z + 1 => by rw [List.replicate_succ, List.cons_append, decN_zero, decN_zeros l z]
theorem repeatL_zero (c : Nat) : Lib.repeatL [48] c = List.replicate c 48 := by
  induction c with
  | zero => rfl
  | succ c ih => rw [Lib.repeatL, ih]; rfl

/-- The digits of a number, behind zeros. -/
def digs (z n : Nat) : List UInt8 := List.replicate z 48 ++ decL n
theorem digs_all (z n : Nat) : (digs z n).all digitU = true := by
  unfold digs
  rw [List.all_append, decL_all n n (Nat.le_refl _), Bool.and_true, List.all_eq_true]
  intro c hc
  rw [List.eq_of_mem_replicate hc]
  rfl
theorem digs_ne (z n : Nat) : digs z n ≠ [] := fun h => decL_ne n (List.append_eq_nil_iff.1 h).2
theorem digs_val (z n : Nat) : decN (digs z n) = n := by
  unfold digs
  rw [decN_zeros, decN_decL n n (Nat.le_refl _)]
theorem digs_word (z n : Nat) : ∀ c ∈ digs z n, wordU c = true := digits_word (digs_all z n)
theorem digs_lit (z n : Nat) : litB (digs z n) = decide ((digs z n).length ≤ 10 ∧ n ≤ 2147483647) := by
  unfold litB
  rw [digs_all, digs_val]
  by_cases h1 : (digs z n).length ≤ 10
  · by_cases h2 : n ≤ 2147483647
    · rw [decide_eq_true h1, decide_eq_true (show (n : Int) ≤ 2147483647 by omega), decide_eq_true (And.intro h1 h2)]; rfl
    · rw [decide_eq_true h1, decide_eq_false (show ¬ (n : Int) ≤ 2147483647 by omega), decide_eq_false (fun h => h2 h.2)]; rfl
  · rw [decide_eq_false h1, decide_eq_false (show ¬ ((digs z n).length ≤ 10 ∧ n ≤ 2147483647) from fun h => h1 h.1)]; rfl
theorem digs_kind (z n : Nat) : kindL (digs z n) = if (digs z n).length ≤ 10 ∧ n ≤ 2147483647 then 3 else 0 := by
  have := digits_kind (T := []) (digs_all z n) (digs_ne z n)
  rw [List.append_nil, digs_lit] at this
  rw [this]
  simp only [decide_eq_true_eq]
theorem digs_bad {z n : Nat} (T : List UInt8) {c : UInt8} (hT : T = [c]) (hc : digitU c = false) : kindL (digs z n ++ T) = 0 := by
  rw [digits_kind (digs_all z n) (digs_ne z n), if_neg]
  subst hT
  unfold litB
  rw [List.all_append, List.all_cons, hc]; simp
theorem digs_tok {z n : Nat} (h : (digs z n).length ≤ 10 ∧ n ≤ 2147483647) (line : Int) : tokAt (digs z n) line = ⟨3, line, ⟨#[]⟩, n⟩ := by
  rw [tokAt_C, tokC, digs_kind, if_pos h, digs_val]
  rfl
theorem digs_good {z n : Nat} (h : (digs z n).length ≤ 10 ∧ n ≤ 2147483647) : goodB (digs z n) = true := by
  rw [good_kind, digs_kind, if_pos h]; rfl

theorem small_read {l : List UInt8} (h : l.length ≤ 65536) : readL l = lexL l 1 [] := by unfold readL; rw [if_neg (by omega)]
/-- A symbol that ends a text. -/
theorem lex_dot (line : Nat) (acc : List TokR) (h : acc.length < 8192) : lexL [46] line acc = .ok (acc ++ [⟨4, line, str [46], 0⟩]) := by
  rw [lexL_tok (by decide) (by decide) (by decide), good_kind, if_pos (by rfl), if_neg (by omega), tokAt_C]
  rfl
theorem lex_dots (line : Nat) (acc : List TokR) (h : acc.length < 8192) : lexL [46, 46] line acc = .ok (acc ++ [⟨4, line, str [46, 46], 0⟩]) := by
  rw [lexL_tok (by decide) (by decide) (by decide), good_kind, if_pos (by rfl), if_neg (by omega), tokAt_C]
  rfl
theorem lex_plus {c : UInt8} {r : List UInt8} (line : Nat) (acc : List TokR) (h : acc.length < 8192) : lexL (43 :: c :: r) line acc = lexL (c :: r) line (acc ++ [⟨4, line, str [43], 0⟩]) := by
  have hs : symL.contains [43, c] = false := by
    rw [List.contains_eq_mem, decide_eq_false_iff_not]
    simp [symL]
  have hp : pieceN (43 :: c :: r) = 1 := by
    unfold pieceN
    rw [wordN_zero (by decide), if_neg (by omega), if_neg]
    intro h
    rw [show (43 :: c :: r : List UInt8).take 2 = [43, c] from rfl, hs] at h
    exact absurd h.2 (by decide)
  rw [lexL_tok (by decide) (by decide) (fun e => by rw [List.take_succ_cons, List.cons.injEq] at e; exact absurd e.1 (by decide)), hp]
  rw [show (43 :: c :: r : List UInt8).take 1 = [43] from rfl, show (43 :: c :: r : List UInt8).drop 1 = c :: r from rfl, good_kind, if_pos (by rfl), if_neg (by omega), tokAt_C]
  rfl

section
variable {z n : Nat} (h : (digs z n).length ≤ 10 ∧ n ≤ 2147483647)
include h
theorem num_one : readL (digs z n) = .ok ([((3, [], (n : Int)) : Tri)].map (tkOf 1)) := by
  have := lex_word (R := []) (line := 1) (acc := []) (digs_word z n) (digs_ne z n) rfl
  rw [List.append_nil] at this
  rw [small_read (by omega), this, digs_good h, if_pos rfl, if_neg (by decide), digs_tok h]
  rfl
theorem num_dot : readL (digs z n ++ [46]) = .ok ([((3, [], (n : Int)) : Tri), (4, [46], 0)].map (tkOf 1)) := by
  rw [small_read (by rw [List.length_append]; simp; omega), lex_word (digs_word z n) (digs_ne z n) (by rfl), digs_good h, if_pos rfl, if_neg (by decide), digs_tok h, lex_dot _ _ (by simp)]
  rfl
theorem num_plus : readL (43 :: (digs z n ++ [46, 46])) = .ok ([((4, [43], 0) : Tri), (3, [], (n : Int)), (4, [46, 46], 0)].map (tkOf 1)) := by
  obtain ⟨c, r, he, _, _⟩ := digits_head (T := [46, 46]) (digs_all z n) (digs_ne z n)
  rw [small_read (by rw [List.length_cons, List.length_append]; simp; omega), he, lex_plus _ _ (by simp), ← he, lex_word (digs_word z n) (digs_ne z n) (by rfl), digs_good h, if_pos rfl, if_neg (by simp), digs_tok h, lex_dots _ _ (by simp)]
  rfl
end
theorem num_behind {z n : Nat} (hl : (digs z n).length ≤ 10) {c : UInt8} (hw : wordU c = true) (hc : digitU c = false) : readL (digs z n ++ [c]) = .no 1 20 := by
  have := lex_word (D := digs z n ++ [c]) (R := []) (line := 1) (acc := []) (fun x hx => (List.mem_append.1 hx).elim (digs_word z n x) (fun h => by rw [List.mem_singleton.1 h]; exact hw)) (by simp) rfl
  rw [List.append_nil] at this
  rw [small_read (by rw [List.length_append]; simp; omega), this, good_kind, digs_bad [c] rfl hc]
  rfl
theorem num_long {z n : Nat} (hl : (digs z n).length ≤ 1000) (h : ¬ ((digs z n).length ≤ 10 ∧ n ≤ 2147483647)) : readL (digs z n) = .no 1 20 := by
  have := lex_word (R := []) (line := 1) (acc := []) (digs_word z n) (digs_ne z n) rfl
  rw [List.append_nil] at this
  rw [small_read (by omega), this, good_kind, digs_kind, if_neg h]
  rfl

end Go.Proofs.YtalbcgbfefgjfaaDoor
