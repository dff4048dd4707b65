
/-
  THE TOKENS OF WRITTEN LINES, as plain mathematics.
-/
import Derived.Test.YtalbcgbfefgjfaaDoorLexB2
import Derived.Test.YtalbcgbfefgjfaaDoorLexLn
namespace Go.Proofs.YtalbcgbfefgjfaaDoor
open Go Go.RowKit

theorem lex_spaces (r : List UInt8) (line : Nat) (acc : List TokR) : ∀ n, lexL (List.replicate n 32 ++ r) line acc = lexL r line acc
  | 0 => rfl
  | n + 1 => by rw [List.replicate_succ, List.cons_append, lexL_space, lex_spaces r line acc n]

theorem text_no10 {x : TokR} (h : mayT x = true) : (10 : UInt8) ∉ tokText x := by
  intro hm
  rcases (text_shape h).2 with ⟨hw, _⟩ | ⟨_, he, hs⟩
  · have := hw 10 hm; revert this; decide
  · rw [he] at hm; exact symL_no10 _ hs hm
theorem join_no10 : ∀ (xs : List TokR) (p : Option TokR), (∀ x ∈ xs, mayT x = true) → (10 : UInt8) ∉ joinFrom p xs
  | [], p, _ => by cases p <;> simp [joinFrom]
  | x :: xs, p, h => by
    have h1 := text_no10 (h x (by simp))
    have h2 := join_no10 xs (some x) (fun y hy => h y (by simp [hy]))
    have h3 : ∀ a, (10 : UInt8) ∉ sepL a x := fun a => by unfold sepL; split <;> simp
    cases p with
    | none => simp only [joinFrom, List.mem_append, not_or]; exact ⟨h1, h2⟩
    | some a => simp only [joinFrom, List.mem_append, not_or]; exact ⟨h3 a, h1, h2⟩
theorem join_ge : ∀ (xs : List TokR) (p : Option TokR), (∀ x ∈ xs, mayT x = true) → xs.length ≤ (joinFrom p xs).length
  | [], p, _ => Nat.zero_le _
  | x :: xs, p, h => by
    have h1 : 1 ≤ (tokText x).length := by
      have := (text_shape (h x (by simp))).1
      cases ht : tokText x with
      | nil => exact absurd ht this
      | cons c r => simp
    have h2 := join_ge xs (some x) (fun y hy => h y (by simp [hy]))
    cases p with
    | none => simp only [joinFrom, List.length_append, List.length_cons]; omega
    | some a => simp only [joinFrom, List.length_append, List.length_cons]; omega

/-- The tokens of lines, each at its line. -/
def toksOf : List LineR → Nat → List TokR
  | [], _ => []
  | z :: zs, line => z.xs.map (fun x => { x with l := (line : Int) }) ++ toksOf zs (line + 1)
theorem toksOf_append : ∀ (a b : List LineR) (line : Nat), toksOf (a ++ b) line = toksOf a line ++ toksOf b (line + a.length)
  | [], b, line => rfl
  | z :: a, b, line => by
    rw [List.cons_append, toksOf, toksOf, toksOf_append a b (line + 1), List.append_assoc, List.length_cons]
    congr 3
    omega
theorem toksOf_length : ∀ (zs : List LineR) (line : Nat), (∀ z ∈ zs, z.xs.length ≤ 256) → (toksOf zs line).length ≤ 256 * zs.length
  | [], _, _ => by simp [toksOf]
  | z :: zs, line, h => by
    have h1 := h z (by simp)
    have h2 := toksOf_length zs (line + 1) (fun y hy => h y (by simp [hy]))
    rw [toksOf, List.length_append, List.length_map, List.length_cons]; omega
/-- A line is written of tokens that exist, and short. -/
def LineR.fit (z : LineR) : Prop := (∀ x ∈ z.xs, mayT x = true) ∧ z.text.length ≤ 256
theorem fit_len {z : LineR} (h : z.fit) : z.xs.length ≤ 256 := by
  have h1 := join_ge z.xs none h.1
  have h2 := h.2
  unfold LineR.text lineL joinL at h2
  rw [List.length_append] at h2
  omega
theorem feeds_text {z : LineR} (h : z.fit) : feeds z.text = 0 := by
  unfold feeds
  refine List.count_eq_zero_of_not_mem (fun hm => ?_)
  unfold LineR.text lineL joinL at hm
  rcases List.mem_append.1 hm with hm | hm
  · have := List.eq_of_mem_replicate hm; revert this; decide
  · exact join_no10 z.xs none h.1 hm
theorem lex_text {z : LineR} (h : z.fit) (line : Nat) (acc : List TokR) (ha : acc.length + z.xs.length ≤ 8192) : lexL z.text line acc = .ok (acc ++ z.xs.map (fun x => { x with l := (line : Int) })) := by
  unfold LineR.text lineL joinL
  rw [lex_spaces]
  exact lex_join z.xs none line acc h.1 ha
theorem lex_lines_of : ∀ (zs : List LineR) (line : Nat) (acc : List TokR), (∀ z ∈ zs, z.fit) → acc.length + 256 * zs.length ≤ 8192 → lexL (linesT zs) line acc = .ok (acc ++ toksOf zs line)
  | [], line, acc, _, _ => by rw [linesT, lexL_nil, toksOf, List.append_nil]
  | z :: zs, line, acc, h, ha => by
    have hz := h z (by simp)
    have hl := fit_len hz
    rw [List.length_cons] at ha
    rw [linesT, lex_mid _ z.text (linesT zs) line acc (Nat.le_refl _), lex_text hz line acc (by omega), feeds_text hz]
    show lexL (linesT zs) (line + 0 + 1) _ = _
    rw [Nat.add_zero, lex_lines_of zs (line + 1) _ (fun y hy => h y (by simp [hy])) (by rw [List.length_append, List.length_map]; omega), toksOf, List.append_assoc]
theorem feeds_lines : ∀ zs : List LineR, (∀ z ∈ zs, z.fit) → feeds (linesT zs) = zs.length
  | [], _ => rfl
  | z :: zs, h => by
    have h1 := feeds_text (h z (by simp))
    have h2 := feeds_lines zs (fun y hy => h y (by simp [hy]))
    unfold feeds at h1 h2 ⊢
    rw [linesT, List.count_append, List.count_cons_self, h1, h2, List.length_cons]; omega
/-- **THE TOKENS OF WRITTEN LINES.** -/
theorem read_lines {zs : List LineR} (hv : zs.all LineR.valid = true) (hs : zs.all LineR.short = true) (hl : (linesT zs).length ≤ 65536) (hn : zs.length ≤ 30) :
    readL (linesT zs) = .ok (toksOf zs 1) ∧ feeds (linesT zs) = zs.length := by
  have hfit : ∀ z ∈ zs, z.fit := fun z hz => by
    have h1 := List.all_eq_true.1 hv z hz
    have h2 := List.all_eq_true.1 hs z hz
    unfold LineR.valid at h1
    unfold LineR.short at h2
    rw [Bool.and_eq_true] at h1
    exact ⟨List.all_eq_true.1 h1.2, of_decide_eq_true h2⟩
  refine ⟨?_, feeds_lines zs hfit⟩
  rw [small_read hl, lex_lines_of zs 1 [] hfit (by rw [List.length_nil]; omega)]
  rfl

end Go.Proofs.YtalbcgbfefgjfaaDoor
