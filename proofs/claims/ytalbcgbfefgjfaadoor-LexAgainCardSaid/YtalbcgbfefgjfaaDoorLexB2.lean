
/-
  THE TOKENS OF THE TEXT OF TOKENS ARE THESE TOKENS, as plain mathematics.
-/
import Derived.Test.YtalbcgbfefgjfaaDoorLexNm
namespace Go.Proofs.YtalbcgbfefgjfaaDoor
open Go Go.RowKit

theorem symL_shape : ∀ s ∈ symL, (s.length = 1 ∨ s.length = 2) ∧ s.headD 0 ≠ 10 ∧ s.headD 0 ≠ 32 ∧ s ≠ [45, 45] := by decide
theorem symL_second : ∀ s ∈ symL, s.length = 2 → wordU (s.getD 1 0) = false ∧ s.getD 1 0 ≠ 32 := by decide
set_option maxRecDepth 100000 in
theorem symL_apart : ∀ s ∈ symL, ∀ t ∈ symL, apartC s t = false → s.length = 1 → symL.contains [s.headD 0, t.headD 0] = false ∧ (s.headD 0 ≠ 45 ∨ t.headD 0 ≠ 45) := by decide +kernel

theorem apart_list (a b : ByteArray) : apartV a b = apartC a.toList b.toList := by
  rw [← apart_C, str_of, str_of]

/-- A symbol, and what comes behind it. -/
theorem lex_symb {s R : List UInt8} {line : Nat} {acc : List TokR} (hs : s ∈ symL) (hR : s.length = 1 → ∀ d r, R = d :: r → symL.contains [s.headD 0, d] = false ∧ (s.headD 0 ≠ 45 ∨ d ≠ 45)) (ha : acc.length < 8192) :
    lexL (s ++ R) line acc = lexL R line (acc ++ [tokAt s line]) := by
  have hg : goodB s = true := by rw [good_kind, kind_sym (by rw [List.contains_eq_mem, decide_eq_true_eq]; exact hs)]; rfl
  obtain ⟨hl, h10, h32, hdd⟩ := symL_shape s hs
  have hw := symL_first s hs
  match s, hl with
  | [c], _ =>
    replace hw : wordU c = false := hw
    replace h10 : ¬ c = 10 := h10
    replace h32 : ¬ c = 32 := h32
    have hp : pieceN (c :: R) = 1 := by
      unfold pieceN
      rw [wordN_zero hw, if_neg (by omega), if_neg]
      intro h
      cases R with
      | nil => simp at h
      | cons d r =>
        have := (hR rfl d r rfl).1
        rw [show (c :: d :: r).take 2 = [c, d] from rfl] at h
        rw [show ([c] : List UInt8).headD 0 = c from rfl] at this
        rw [this] at h
        exact absurd h.2 (by decide)
    have h3 : ¬ (c :: R).take 2 = [45, 45] := by
      intro h
      cases R with
      | nil => simp at h
      | cons d r =>
        rw [show (c :: d :: r).take 2 = [c, d] from rfl, List.cons.injEq, List.cons.injEq] at h
        exact (hR rfl d r rfl).2.elim (fun k => k h.1) (fun k => k h.2.1)
    rw [List.cons_append, List.nil_append, lexL_tok h10 h32 h3, hp]
    rw [show (c :: R).take 1 = [c] from rfl, show (c :: R).drop 1 = R from rfl, hg, if_pos rfl, if_neg (by omega)]
  | [c, d], _ =>
    replace hw : wordU c = false := hw
    replace h10 : ¬ c = 10 := h10
    replace h32 : ¬ c = 32 := h32
    have ht : (c :: d :: R).take 2 = [c, d] := rfl
    have hp : pieceN (c :: d :: R) = 2 := by
      unfold pieceN
      rw [wordN_zero hw, if_neg (by omega), if_pos]
      exact ⟨by simp, by rw [ht, List.contains_eq_mem, decide_eq_true_eq]; exact hs⟩
    rw [List.cons_append, List.cons_append, List.nil_append, lexL_tok h10 h32 (by rw [ht]; exact hdd), hp, ht, show (c :: d :: R).drop 2 = R from rfl, hg, if_pos rfl, if_neg (by omega)]

/-- A text of word bytes is none of the symbols. -/
theorem plain_ne {l s : List UInt8} (hl : ∀ c ∈ l, wordU c = true) (hs : s ≠ []) (hw : wordU (s.headD 0) = false) : (l == s) = false := by
  rw [beq_eq_false_iff_ne]
  rintro rfl
  cases l with
  | nil => exact hs rfl
  | cons c r =>
    have := hl c (by simp)
    rw [show (c :: r : List UInt8).headD 0 = c from rfl, this] at hw
    cases hw
theorem plain_apart {a b : List UInt8} (ha : ∀ c ∈ a, wordU c = true) (hb : ∀ c ∈ b, wordU c = true) : apartC a b = true := by
  unfold apartC
  rw [plain_ne hb (s := [44]) (by simp) (by decide), plain_ne hb (s := [59]) (by simp) (by decide), plain_ne hb (s := [41]) (by simp) (by decide), plain_ne hb (s := [39]) (by simp) (by decide),
    plain_ne ha (s := [40]) (by simp) (by decide), plain_ne ha (s := [39]) (by simp) (by decide), plain_ne ha (s := [46]) (by simp) (by decide), plain_ne hb (s := [46]) (by simp) (by decide)]
  rfl
/-- The text that a token bears, if it is no symbol. -/
theorem word_text {x : TokR} (h : mayT x = true) (hk : x.k ≠ 4) : ∀ c ∈ x.t.toList, wordU c = true := by
  by_cases h3 : x.k = 3
  · rw [(may_int h h3).1]; intro c hc; simp at hc
  · have := (text_shape h).2
    rw [tokText_str h3] at this
    rcases this with ⟨h1, _⟩ | ⟨h1, _⟩
    · exact h1
    · exact absurd h1 hk

/-- What stands behind a token's text. -/
def Behind (x : TokR) (R : List UInt8) : Prop := R = [] ∨ (∃ r, R = 32 :: r) ∨ (∃ y r, mayT y = true ∧ apartV x.t y.t = false ∧ R = tokText y ++ r)
theorem behind_join (x : TokR) {xs : List TokR} (h : ∀ y ∈ xs, mayT y = true) : Behind x (joinFrom (some x) xs) := by
  cases xs with
  | nil => exact Or.inl rfl
  | cons y ys =>
    unfold joinFrom sepL
    by_cases ha : apartV x.t y.t = true
    · rw [if_pos ha]; exact Or.inr (Or.inl ⟨_, rfl⟩)
    · rw [if_neg ha]; exact Or.inr (Or.inr ⟨y, _, h y (by simp), by simpa using ha, rfl⟩)

theorem lex_step {x : TokR} {R : List UInt8} {line : Nat} {acc : List TokR} (hx : mayT x = true) (hR : Behind x R) (ha : acc.length < 8192) : lexL (tokText x ++ R) line acc = lexL R line (acc ++ [{ x with l := line }]) := by
  obtain ⟨ht, hg⟩ := tokAt_text hx (line : Int)
  obtain ⟨hne, hsh⟩ := text_shape hx
  rcases hsh with ⟨hw, hk⟩ | ⟨hk, het, hs⟩
  · have hr : R.takeWhile wordU = [] := by
      rcases hR with rfl | ⟨r, rfl⟩ | ⟨y, r, hy, hap, rfl⟩
      · rfl
      · rw [List.takeWhile_cons, if_neg (by decide)]
      · obtain ⟨_, hsy⟩ := text_shape hy
        rcases hsy with ⟨_, hky⟩ | ⟨hky, hety, hsy⟩
        · rw [apart_list, plain_apart (word_text hx hk) (word_text hy hky)] at hap
          cases hap
        · rw [hety]
          have h1 := symL_first _ hsy
          have h2 := (symL_shape _ hsy).1
          cases hyl : y.t.toList with
          | nil => rw [hyl] at h2; simp at h2
          | cons c t =>
            rw [hyl] at h1
            rw [List.cons_append, List.takeWhile_cons, if_neg (by simpa using h1)]
    rw [lex_word hw hne hr, hg, if_pos rfl, if_neg (by omega), ht]
  · rw [het] at ht ⊢
    rw [lex_symb hs ?_ ha, ht]
    intro h1 d r hd
    rcases hR with rfl | ⟨q, rfl⟩ | ⟨y, q, hy, hap, rfl⟩
    · cases hd
    · obtain ⟨rfl, rfl⟩ := List.cons.inj hd
      refine ⟨?_, Or.inr (by decide)⟩
      rw [List.contains_eq_mem, decide_eq_false_iff_not]
      intro hm
      exact (symL_second _ hm rfl).2 rfl
    · obtain ⟨hney, hsy⟩ := text_shape hy
      cases hyt : tokText y with
      | nil => exact absurd hyt hney
      | cons c t =>
        rw [hyt, List.cons_append] at hd
        obtain ⟨rfl, _⟩ := List.cons.inj hd
        rcases hsy with ⟨hwy, _⟩ | ⟨_, hety, hsy⟩
        · have hc := hwy c (by rw [hyt]; simp)
          refine ⟨?_, Or.inr (fun e => by subst e; revert hc; decide)⟩
          rw [List.contains_eq_mem, decide_eq_false_iff_not]
          intro hm
          have := (symL_second _ hm rfl).1
          rw [show ([x.t.toList.headD 0, c] : List UInt8).getD 1 0 = c from rfl, hc] at this
          cases this
        · rw [apart_list] at hap
          have := symL_apart _ hs _ hsy hap h1
          rw [← hety, hyt] at this
          exact this

theorem lex_join : ∀ (xs : List TokR) (p : Option TokR) (line : Nat) (acc : List TokR), (∀ x ∈ xs, mayT x = true) → acc.length + xs.length ≤ 8192 → lexL (joinFrom p xs) line acc = .ok (acc ++ xs.map (fun x => { x with l := (line : Int) }))
  | [], p, line, acc, _, _ => by cases p <;> simp [joinFrom, lexL_nil]
  | x :: xs, p, line, acc, h, hl => by
    rw [List.length_cons] at hl
    have hs : lexL (tokText x ++ joinFrom (some x) xs) line acc = .ok (acc ++ (x :: xs).map (fun x => { x with l := (line : Int) })) := by
      rw [lex_step (h x (by simp)) (behind_join x (fun y hy => h y (by simp [hy]))) (by omega), lex_join xs (some x) line _ (fun y hy => h y (by simp [hy])) (by rw [List.length_append, List.length_singleton]; omega)]
      simp
    cases p with
    | none => exact hs
    | some a =>
      unfold joinFrom sepL
      split
      · rw [List.cons_append, List.nil_append, lexL_space]; exact hs
      · exact hs

/-- A token of the first line. -/
def atOne (x : TokR) : TokR := { x with l := 1 }
theorem read_back {xs : List TokR} (h : ∀ x ∈ xs, mayT x = true) (hn : xs.length ≤ 8192) (hl : (joinL xs).length ≤ 65536) : readL (joinL xs) = .ok (xs.map atOne) := by
  rw [small_read hl]
  have := lex_join xs none 1 [] h (by simpa using hn)
  exact this
theorem like_one : ∀ xs : List TokR, allB tokLike xs (xs.map atOne) = true
  | [] => rfl
  | x :: xs => by
    simp only [List.map_cons, allB, like_one xs, Bool.and_true]
    unfold tokLike likeB atOne
    simp

/-- Seven tokens are not too long. -/
theorem joinFrom_len33 : ∀ (xs : List TokR) (p : Option TokR), (∀ x ∈ xs, mayT x = true) → (joinFrom p xs).length ≤ 33 * xs.length
  | [], p, _ => by cases p <;> simp [joinFrom]
  | x :: xs, p, h => by
    have h1 := tokText_len (h x (by simp))
    have h2 := joinFrom_len33 xs (some x) (fun y hy => h y (by simp [hy]))
    have h3 : ∀ a, (sepL a x).length ≤ 1 := fun a => by unfold sepL; split <;> simp
    cases p with
    | none => simp only [joinFrom, List.length_append, List.length_cons]; omega
    | some a => have := h3 a; simp only [joinFrom, List.length_append, List.length_cons]; omega

end Go.Proofs.YtalbcgbfefgjfaaDoor
