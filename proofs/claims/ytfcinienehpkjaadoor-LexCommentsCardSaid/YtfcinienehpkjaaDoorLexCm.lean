
/-
  A COMMENT AT THE END OF A LINE, as plain mathematics.
-/
import Derived.Test.YtfcinienehpkjaaDoorLexJs
namespace Go.Proofs.YtfcinienehpkjaaDoor
open Go Go.RowKit

theorem takeWhile_stop (a t : List UInt8) (h : ¬ ∀ x ∈ a, inLine x = true) : (a ++ t).takeWhile inLine = a.takeWhile inLine ∧ (a ++ t).dropWhile inLine = a.dropWhile inLine ++ t := by
  induction a with
  | nil => exact absurd (fun x hx => by simp at hx) h
  | cons c r ih =>
    by_cases hc : inLine c = true
    · have := ih (fun hr => h (fun x hx => by rcases List.mem_cons.1 hx with rfl | hx; exact hc; exact hr x hx))
      rw [List.cons_append, List.takeWhile_cons, List.takeWhile_cons, List.dropWhile_cons, List.dropWhile_cons, if_pos hc, if_pos hc, if_pos hc, if_pos hc, this.1, this.2]
      exact ⟨rfl, rfl⟩
    · rw [List.cons_append, List.takeWhile_cons, List.takeWhile_cons, List.dropWhile_cons, List.dropWhile_cons, if_neg hc, if_neg hc, if_neg hc, if_neg hc]
      exact ⟨rfl, rfl⟩
theorem takeWhile_whole (a : List UInt8) (h : ∀ x ∈ a, inLine x = true) : a.takeWhile inLine = a ∧ a.dropWhile inLine = [] := by
  induction a with
  | nil => exact ⟨rfl, rfl⟩
  | cons c r ih =>
    have hc := h c (by simp)
    have := ih (fun x hx => h x (by simp [hx]))
    rw [List.takeWhile_cons, List.dropWhile_cons, if_pos hc, if_pos hc, this.1, this.2]
    exact ⟨rfl, rfl⟩
theorem wordN_gap (a b : List UInt8) : wordN (a ++ 32 :: b) = wordN a := by
  induction a with
  | nil => rfl
  | cons c r ih =>
    simp only [wordN, List.cons_append, List.takeWhile_cons] at ih ⊢
    split
    · simp only [List.length_cons, ih]
    · rfl
theorem symL_no32 : ∀ x ∈ symL, ¬ (32 : UInt8) ∈ x := by decide
theorem pieceN_gap (a b : List UInt8) (h : a ≠ []) : pieceN (a ++ 32 :: b) = pieceN a := by
  unfold pieceN
  rw [wordN_gap]
  match a, h with
  | [c], _ =>
    have hs : symL.contains [c, 32] = false := by
      rw [List.contains_eq_mem, decide_eq_false_iff_not]
      exact fun h => symL_no32 _ h (by simp)
    have hs' : ¬ [c, 32] ∈ symL := by simpa using hs
    simp [hs']
  | c :: d :: r, _ =>
    simp [List.take_succ_cons]
theorem take2_gap (a b : List UInt8) (h : a ≠ []) : (a ++ 32 :: b).take 2 = [45, 45] ↔ a.take 2 = [45, 45] := by
  match a, h with
  | [c], _ => simp
  | c :: d :: r, _ => simp

/-- A comment, with the space before it. -/
def cmt (b : List UInt8) : List UInt8 := 32 :: 45 :: 45 :: b
theorem print_inLine {c : UInt8} (h : printU c = true) : inLine c = true := by
  unfold inLine
  rw [bne_iff_ne]
  rintro rfl
  revert h; decide
theorem cmt_print {b : List UInt8} (h : b.all printU = true) : (cmt b).all printU = true := by
  unfold cmt
  rw [List.all_cons, List.all_cons, List.all_cons, h]; rfl

/-- **A COMMENT BEHIND A TEXT CHANGES NOTHING.** -/
theorem lex_cmt {b : List UInt8} (hb : b.all printU = true) : ∀ (n : Nat) (a : List UInt8) (line : Nat) (acc : List TokR), a.length ≤ n → lexL (a ++ cmt b) line acc = lexL a line acc
  | n, [], line, acc, _ => by
    have hp : (45 :: 45 :: b).all printU = true := by rw [List.all_cons, List.all_cons, hb]; rfl
    obtain ⟨h1, h2⟩ := takeWhile_whole (45 :: 45 :: b) (fun x hx => print_inLine (List.all_eq_true.1 hp x hx))
    rw [List.nil_append, cmt, lexL_space, lexL_note rfl, h1, h2, hp, if_pos rfl]
  | 0, c :: r, line, acc, h => by simp at h
  | n + 1, c :: r, line, acc, h => by
    simp only [List.length_cons] at h
    by_cases h10 : c = 10
    · subst h10
      rw [List.cons_append, lexL_feed, lexL_feed, lex_cmt hb n r _ _ (by omega)]
    · by_cases h32 : c = 32
      · subst h32
        rw [List.cons_append, lexL_space, lexL_space, lex_cmt hb n r _ _ (by omega)]
      · by_cases h2 : (c :: r).take 2 = [45, 45]
        · have h2' : (c :: r ++ cmt b).take 2 = [45, 45] := (take2_gap _ _ (by simp)).2 h2
          rw [lexL_note h2', lexL_note h2]
          by_cases hall : ∀ x ∈ c :: r, inLine x = true
          · have hcb : ∀ x ∈ cmt b, inLine x = true := fun x hx => print_inLine (List.all_eq_true.1 (cmt_print hb) x hx)
            obtain ⟨e1, e2⟩ := takeWhile_whole (c :: r ++ cmt b) (fun x hx => (List.mem_append.1 hx).elim (hall x) (hcb x))
            obtain ⟨e3, e4⟩ := takeWhile_whole (c :: r) hall
            rw [e1, e2, e3, e4, List.all_append, cmt_print hb, Bool.and_true]
          · obtain ⟨e1, e2⟩ := takeWhile_stop (c :: r) (cmt b) hall
            have hw : ((c :: r).dropWhile inLine).length ≤ r.length := by
              rw [List.dropWhile_cons, if_pos (by simpa [inLine] using h10)]
              exact (List.dropWhile_suffix _).length_le
            rw [e1, e2, lex_cmt hb n _ _ _ (by omega)]
        · have hp := pieceN_pos (c :: r)
          have hd : ((c :: r).drop (pieceN (c :: r))).length ≤ r.length := by rw [List.length_drop, List.length_cons]; omega
          have hm : pieceN (c :: r ++ cmt b) = pieceN (c :: r) := pieceN_gap (c :: r) _ (by simp)
          have hle := pieceN_le (c :: r) (by simp)
          have h2' : ¬ (c :: (r ++ cmt b)).take 2 = [45, 45] := fun e => h2 ((take2_gap (c :: r) _ (by simp)).1 e)
          rw [List.cons_append] at hm ⊢
          rw [lexL_tok h10 h32 h2', lexL_tok h10 h32 h2, hm]
          have et : (c :: (r ++ cmt b)).take (pieceN (c :: r)) = (c :: r).take (pieceN (c :: r)) := by
            rw [← List.cons_append, List.take_append_of_le_length hle]
          have ed : (c :: (r ++ cmt b)).drop (pieceN (c :: r)) = (c :: r).drop (pieceN (c :: r)) ++ cmt b := by
            rw [← List.cons_append, List.drop_append_of_le_length hle]
          rw [et, ed]
          split
          · split
            · rfl
            · rw [lex_cmt hb n _ _ _ (by omega)]
          · rfl

theorem feeds_cmt {b : List UInt8} (hb : b.all printU = true) (a : List UInt8) : feeds (a ++ cmt b) = feeds a := by
  unfold feeds
  have h0 : List.count 10 (cmt b) = 0 := List.count_eq_zero_of_not_mem (fun h => by
    have := List.all_eq_true.1 (cmt_print hb) _ h
    revert this; decide)
  rw [List.count_append, h0, Nat.add_zero]
/-- A comment at the end of any line. -/
theorem lex_cmt_in {b : List UInt8} (hb : b.all printU = true) (a r : List UInt8) (line : Nat) (acc : List TokR) : lexL (a ++ cmt b ++ 10 :: r) line acc = lexL (a ++ 10 :: r) line acc := by
  rw [lex_mid _ (a ++ cmt b) r line acc (Nat.le_refl _), lex_mid _ a r line acc (Nat.le_refl _), lex_cmt hb _ a line acc (Nat.le_refl _), feeds_cmt hb]

end Go.Proofs.YtfcinienehpkjaaDoor
