
/-
  LINES JOINED AGAIN, one of them with a comment.
-/
import Derived.Test.YtfcinienehpkjaaDoorLexCm
import Derived.Lib.Join
namespace Go.Proofs.YtfcinienehpkjaaDoor
open Go Go.RowKit

def joinLn : List (List UInt8) → List UInt8
  | [] => []
  | [x] => x
  | x :: y :: r => x ++ 10 :: joinLn (y :: r)
theorem join_ln : ∀ xs : List (List UInt8), Lib.join xs [10] = joinLn xs
  | [] => rfl
  | [x] => Lib.join_one x [10]
  | x :: y :: r => by
    rw [joinLn, ← join_ln (y :: r)]
    simp [Lib.join, List.intercalate]
theorem lines_join : ∀ l : List UInt8, joinLn (linesL l) = l
  | [] => rfl
  | c :: r => by
    have ih := lines_join r
    unfold linesL
    cases h : linesL r with
    | nil => exact absurd h (linesL_ne r)
    | cons x xs =>
      rw [h] at ih
      by_cases hc : c = 10
      · subst hc
        rw [if_pos rfl, joinLn, ih]; rfl
      · rw [if_neg hc]
        cases xs with
        | nil => simp only [joinLn] at ih ⊢; rw [ih]
        | cons y ys => simp only [joinLn, List.cons_append] at ih ⊢; rw [ih]
/-- One line grows. -/
theorem join_grown (T : List UInt8) : ∀ (xs : List (List UInt8)) (k : Nat) (x : List UInt8), xs[k]? = some x →
    ∃ a R, joinLn xs = a ++ R ∧ (R = [] ∨ ∃ r, R = 10 :: r) ∧ joinLn (xs.set k (x ++ T)) = a ++ T ++ R
  | [], k, x, h => by simp at h
  | [y], 0, x, h => by
    obtain rfl : y = x := by simpa using h
    exact ⟨y, [], by simp [joinLn], Or.inl rfl, by simp [joinLn]⟩
  | [y], k + 1, x, h => by simp at h
  | y :: z :: r, 0, x, h => by
    obtain rfl : y = x := by simpa using h
    exact ⟨y, 10 :: joinLn (z :: r), rfl, Or.inr ⟨_, rfl⟩, by simp [joinLn]⟩
  | y :: z :: r, k + 1, x, h => by
    obtain ⟨a, R, h1, h2, h3⟩ := join_grown T (z :: r) k x (by simpa using h)
    refine ⟨y ++ 10 :: a, R, by rw [joinLn, h1]; simp, h2, ?_⟩
    rw [List.set_cons_succ]
    cases hs : (z :: r).set k (x ++ T) with
    | nil => have := congrArg List.length hs; simp at this
    | cons u v =>
      rw [hs] at h3
      rw [joinLn, h3]; simp
theorem small_readS {l : List UInt8} (h : l.length ≤ 65536) : readL l = lexL l 1 [] := by unfold readL; rw [if_neg (by omega)]
theorem read_cmt {b : List UInt8} (hb : b.all printU = true) {l : List UInt8} {k : Nat} {x : List UInt8} (h : (linesL l)[k]? = some x) (hl : l.length ≤ 2000) (hbl : b.length ≤ 100) :
    readL (joinLn ((linesL l).set k (x ++ cmt b))) = readL l ∧ (joinLn ((linesL l).set k (x ++ cmt b))).length = l.length + b.length + 3 := by
  obtain ⟨a, R, h1, h2, h3⟩ := join_grown (cmt b) (linesL l) k x h
  rw [lines_join] at h1
  have hc : (cmt b).length = b.length + 3 := rfl
  have hlen : (a ++ cmt b ++ R).length = l.length + b.length + 3 := by rw [h1]; simp only [List.length_append, hc]; omega
  rw [h3]
  refine ⟨?_, hlen⟩
  rw [small_readS (by omega), small_readS (by omega), h1]
  rcases h2 with rfl | ⟨r, rfl⟩
  · rw [List.append_nil, List.append_nil]; exact lex_cmt hb _ a 1 [] (Nat.le_refl _)
  · exact lex_cmt_in hb a r 1 []

end Go.Proofs.YtfcinienehpkjaaDoor
