
/-
  THE TOKENS OF THE TEXT OF TOKENS, as plain mathematics.
-/
import Derived.Test.YtalbcgbfefgjfaaDoorLexN1
import Derived.Test.YtalbcgbfefgjfaaDoorLexQ
import Derived.Test.YtalbcgbfefgjfaaDoorLexJm
namespace Go.Proofs.YtalbcgbfefgjfaaDoor
open Go Go.RowKit

/-! ### decimal digits -/
theorem digit_byte (n : Nat) : digitU (48 + UInt8.ofNat (n % 10)) = true := by
  have h := digit_val n
  rw [digitU_iff, h]
  omega
theorem decL_all : ∀ (m n : Nat), n ≤ m → (decL n).all digitU = true := by
  intro m
  induction m with
  | zero =>
    intro n h
    obtain rfl : n = 0 := by omega
    rw [decL, if_pos (by omega)]; rfl
  | succ m ih =>
    intro n h
    rw [decL]
    split
    · simp [digit_byte]
    · rw [List.all_append, ih (n / 10) (by omega)]; simp [digit_byte]
theorem decL_ne (n : Nat) : decL n ≠ [] := by rw [decL]; split <;> simp
theorem decN_snoc (l : List UInt8) (c : UInt8) : decN (l ++ [c]) = 10 * decN l + ((c.toNat : Int) - 48) := by simp [decN]
theorem decN_decL : ∀ (m n : Nat), n ≤ m → decN (decL n) = n := by
  intro m
  induction m with
  | zero =>
    intro n h
    obtain rfl : n = 0 := by omega
    rw [decL, if_pos (by omega)]; rfl
  | succ m ih =>
    intro n h
    rw [decL]
    have hd := digit_val n
    split
    · have := decN_snoc [] (48 + UInt8.ofNat (n % 10))
      rw [List.nil_append] at this
      rw [this, hd]
      simp [decN]; omega
    · rw [decN_snoc, ih (n / 10) (by omega), hd]; omega

theorem digits_word {l : List UInt8} (h : l.all digitU = true) : ∀ c ∈ l, wordU c = true := fun c hc => digit_word (List.all_eq_true.1 h c hc)
theorem lit_dec {n : Nat} (h : n ≤ 2147483647) : kindL (decL n) = 3 := by
  have h1 := decL_all n n (Nat.le_refl _)
  have h2 := decL_ne n
  have h3 := decN_decL n n (Nat.le_refl _)
  have h4 := decL_len 9 n (by omega)
  have hl : litB (decL n) = true := by
    unfold litB
    rw [h1, h3, decide_eq_true (show (n : Int) ≤ 2147483647 by omega), decide_eq_true (by omega)]; rfl
  cases hd : decL n with
  | nil => exact absurd hd h2
  | cons c r =>
    have hc : digitB c.toNat = true := by
      have := List.all_eq_true.1 h1 c (by rw [hd]; simp)
      exact this
    have hlet : letterB c.toNat = false := by
      have := (digitU_iff c).1 hc
      exact decide_eq_false (by omega)
    rw [hd] at hl
    unfold kindL
    rw [not_name hlet, not_key hlet, not_sym (digit_word hc), hl]; rfl

/-! ### the kinds of tokens -/
theorem may_name {x : TokR} (h : mayT x = true) (hk : x.k = 1) : nameB x.t.toList = true ∧ x.n = 0 := by
  unfold mayT mayB at h
  rw [if_pos hk, Bool.and_eq_true, beq_iff_eq] at h
  exact h
theorem may_key {x : TokR} (h : mayT x = true) (hk : x.k = 2) : keyL.contains x.t.toList = true ∧ x.n = 0 := by
  unfold mayT mayB at h
  rw [if_neg (by omega), if_pos hk, Bool.and_eq_true, beq_iff_eq] at h
  exact h
theorem may_sym {x : TokR} (h : mayT x = true) (hk : x.k = 4) : symL.contains x.t.toList = true ∧ x.n = 0 := by
  unfold mayT mayB at h
  rw [if_neg (by omega), if_neg (by omega), if_pos hk, Bool.and_eq_true, beq_iff_eq] at h
  exact h
theorem may_int {x : TokR} (h : mayT x = true) (hk : x.k = 3) : x.t.toList = [] ∧ 0 ≤ x.n ∧ x.n ≤ 2147483647 := by
  unfold mayT mayB at h
  rw [if_neg (by omega), if_neg (by omega), if_neg (by omega), if_pos hk, Bool.and_eq_true, beq_iff_eq, decide_eq_true_eq] at h
  exact h
theorem may_kinds {x : TokR} (h : mayT x = true) : x.k = 1 ∨ x.k = 2 ∨ x.k = 3 ∨ x.k = 4 := by
  unfold mayT mayB at h
  by_cases h1 : x.k = 1
  · exact Or.inl h1
  · by_cases h2 : x.k = 2
    · exact Or.inr (Or.inl h2)
    · by_cases h4 : x.k = 4
      · exact Or.inr (Or.inr (Or.inr h4))
      · by_cases h3 : x.k = 3
        · exact Or.inr (Or.inr (Or.inl h3))
        · rw [if_neg h1, if_neg h2, if_neg h4, if_neg h3] at h; cases h

/-- The token of a token's text. -/
theorem tokAt_text {x : TokR} (h : mayT x = true) (line : Int) : tokAt (tokText x) line = { x with l := line } ∧ goodB (tokText x) = true := by
  obtain ⟨k, l, t, n⟩ := x
  rcases may_kinds h with hk | hk | hk | hk
  · dsimp only at hk; subst hk
    obtain ⟨h1, h2⟩ := may_name h rfl
    dsimp only at h1 h2; subst h2
    have ht : tokText ⟨1, l, t, 0⟩ = t.toList := rfl
    rw [ht, tokAt_C, tokC, good_kind, kind_name h1, str_of]
    exact ⟨rfl, rfl⟩
  · dsimp only at hk; subst hk
    obtain ⟨h1, h2⟩ := may_key h rfl
    dsimp only at h1 h2; subst h2
    have ht : tokText ⟨2, l, t, 0⟩ = t.toList := rfl
    rw [ht, tokAt_C, tokC, good_kind, kind_key h1, str_of]
    exact ⟨rfl, rfl⟩
  · dsimp only at hk; subst hk
    obtain ⟨h1, h2, h3⟩ := may_int h rfl
    dsimp only at h1 h2 h3
    have ht : tokText ⟨3, l, t, n⟩ = decL n.toNat := rfl
    have hz : t = ⟨#[]⟩ := ba_ext (h1.trans (str_toList []).symm)
    rw [ht, tokAt_C, tokC, good_kind, lit_dec (by omega), decN_decL _ _ (Nat.le_refl _)]
    refine ⟨?_, rfl⟩
    rw [hz]
    simp
    omega
  · dsimp only at hk; subst hk
    obtain ⟨h1, h2⟩ := may_sym h rfl
    dsimp only at h1 h2; subst h2
    have ht : tokText ⟨4, l, t, 0⟩ = t.toList := rfl
    rw [ht, tokAt_C, tokC, good_kind, kind_sym h1, str_of]
    exact ⟨rfl, rfl⟩

/-- A token's text is a word, or a symbol. -/
theorem key_word : ∀ x ∈ keyL, x ≠ [] ∧ x.all wordU = true := by decide
theorem text_shape {x : TokR} (h : mayT x = true) : tokText x ≠ [] ∧ ((∀ c ∈ tokText x, wordU c = true) ∧ x.k ≠ 4 ∨ (x.k = 4 ∧ tokText x = x.t.toList ∧ x.t.toList ∈ symL)) := by
  rcases may_kinds h with hk | hk | hk | hk
  · obtain ⟨h1, _⟩ := may_name h hk
    have ht : tokText x = x.t.toList := tokText_str (by omega)
    have h2 := h1
    unfold nameB at h2
    simp only [Bool.and_eq_true, decide_eq_true_eq] at h2
    refine ⟨by rw [ht]; intro e; rw [e] at h2; simp at h2, Or.inl ⟨by rw [ht]; exact wordN_all h2.1.2, by omega⟩⟩
  · obtain ⟨h1, _⟩ := may_key h hk
    have ht : tokText x = x.t.toList := tokText_str (by omega)
    rw [List.contains_eq_mem, decide_eq_true_eq] at h1
    obtain ⟨h2, h3⟩ := key_word _ h1
    exact ⟨by rw [ht]; exact h2, Or.inl ⟨by rw [ht]; exact List.all_eq_true.1 h3, by omega⟩⟩
  · have ht : tokText x = decL x.n.toNat := by unfold tokText textL; rw [if_pos hk]
    exact ⟨by rw [ht]; exact decL_ne _, Or.inl ⟨by rw [ht]; exact digits_word (decL_all _ _ (Nat.le_refl _)), by omega⟩⟩
  · obtain ⟨h1, _⟩ := may_sym h hk
    have ht : tokText x = x.t.toList := tokText_str (by omega)
    rw [List.contains_eq_mem, decide_eq_true_eq] at h1
    have hne : ∀ s ∈ symL, s ≠ [] := by decide
    exact ⟨by rw [ht]; exact hne _ h1, Or.inr ⟨hk, ht, h1⟩⟩
/-- No token's text has a line feed or a space, or begins a note. -/
theorem text_first {x : TokR} (h : mayT x = true) : ∃ c r, tokText x = c :: r ∧ c ≠ 10 ∧ c ≠ 32 := by
  obtain ⟨h1, h2⟩ := text_shape h
  cases ht : tokText x with
  | nil => exact absurd ht h1
  | cons c r =>
    refine ⟨c, r, rfl, ?_⟩
    rw [ht] at h2
    rcases h2 with ⟨h2, _⟩ | ⟨_, h2, h3⟩
    · have := h2 c (by simp)
      exact ⟨fun e => by subst e; revert this; decide, fun e => by subst e; revert this; decide⟩
    · have hs : ∀ s ∈ symL, s.headD 0 ≠ 10 ∧ s.headD 0 ≠ 32 := by decide
      rw [← h2] at h3
      exact hs _ h3

end Go.Proofs.YtalbcgbfefgjfaaDoor
