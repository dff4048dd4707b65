
/-
  THE REFERENCE's One.
-/
import Derived.Test.YtalbcgbfefgjfaaDoorLexCp
import Derived.Test.YtalbcgbfefgjfaaDoorLexS
import Derived.Test.YtalbcgbfefgjfaaDoorLexI
namespace Go.Proofs.YtalbcgbfefgjfaaDoor
open Go Go.RowKit

/-- How many bytes the token has with which bytes begin; 0: it is an error. -/
def oneN (l : List UInt8) : Nat := if goodB (l.take (pieceN l)) = true then pieceN l else 0

theorem keyL_first : ∀ x ∈ keyL, letterB ((x.headD 0).toNat : Int) = true := by decide
theorem symL_first : ∀ x ∈ symL, wordU (x.headD 0) = false := by decide
theorem letter_not_digit {c : Int} (h : letterB c = true) : digitB c = false := by
  unfold letterB at h
  unfold digitB
  rw [decide_eq_true_eq] at h
  exact decide_eq_false (by omega)
theorem letter_word {c : UInt8} (h : letterB c.toNat = true) : wordU c = true := by unfold wordU wordB; rw [h]; rfl
theorem digit_word {c : UInt8} (h : digitB c.toNat = true) : wordU c = true := by unfold wordU wordB; rw [h]; simp

theorem kind_key {l : List UInt8} (h : keyL.contains l = true) : kindL l = 2 := by
  have hn : nameB l = false := by unfold nameB; rw [h]; simp
  unfold kindL
  rw [hn, h]; rfl
theorem kind_name {l : List UInt8} (h : nameB l = true) : kindL l = 1 := by unfold kindL; rw [h]; rfl
theorem not_sym {c : UInt8} {r : List UInt8} (hc : wordU c = true) : symL.contains (c :: r) = false := by
  rw [List.contains_eq_mem, decide_eq_false_iff_not]
  intro h
  have := symL_first _ h
  simp [hc] at this
theorem not_lit {c : UInt8} {r : List UInt8} (hc : digitB c.toNat = false) : litB (c :: r) = false := by
  unfold litB
  rw [List.all_cons, show digitU c = false from hc]; simp
theorem not_key {c : UInt8} {r : List UInt8} (hc : letterB c.toNat = false) : keyL.contains (c :: r) = false := by
  rw [List.contains_eq_mem, decide_eq_false_iff_not]
  intro h
  have := keyL_first _ h
  simp [hc] at this
theorem not_name {c : UInt8} {r : List UInt8} (hc : letterB c.toNat = false) : nameB (c :: r) = false := by
  unfold nameB
  rw [show ((c :: r : List UInt8).headD 0) = c from rfl, hc]; simp

theorem wordN_pos {c : UInt8} {r : List UInt8} (hc : wordU c = true) : 1 ≤ wordN (c :: r) := by
  unfold wordN
  rw [List.takeWhile_cons, if_pos hc]; simp
theorem wordN_zero {c : UInt8} {r : List UInt8} (hc : wordU c = false) : wordN (c :: r) = 0 := by
  unfold wordN
  rw [List.takeWhile_cons, if_neg (by simp [hc])]; rfl
theorem piece_word {l : List UInt8} (h : 1 ≤ wordN l) : pieceN l = wordN l := by unfold pieceN; rw [if_pos (by omega)]
theorem take_first {c : UInt8} {r : List UInt8} {n : Nat} (h : 1 ≤ n) : ∃ t, (c :: r).take n = c :: t := by
  obtain ⟨k, rfl⟩ : ∃ k, n = k + 1 := ⟨n - 1, by omega⟩
  exact ⟨r.take k, by simp⟩

/-- A word that begins with a letter. -/
theorem one_key {l : List UInt8} {c : UInt8} {r : List UInt8} (hl : l = c :: r) (hc : letterB c.toNat = true) (hk : keyL.contains (l.take (wordN l)) = true) : oneN l = wordN l ∧ tokAt (l.take (wordN l)) 0 = ⟨2, 0, str (l.take (wordN l)), 0⟩ := by
  have hp := piece_word (l := l) (by rw [hl]; exact wordN_pos (letter_word hc))
  have h2 := kind_key hk
  refine ⟨?_, ?_⟩
  · unfold oneN; rw [hp, good_kind, h2]; rfl
  · rw [tokAt_C, tokC, h2]; rfl
theorem one_name {l : List UInt8} {c : UInt8} {r : List UInt8} (hl : l = c :: r) (hc : letterB c.toNat = true) (hk : nameB (l.take (wordN l)) = true) : oneN l = wordN l ∧ tokAt (l.take (wordN l)) 0 = ⟨1, 0, str (l.take (wordN l)), 0⟩ := by
  have hp := piece_word (l := l) (by rw [hl]; exact wordN_pos (letter_word hc))
  have h2 := kind_name hk
  refine ⟨?_, ?_⟩
  · unfold oneN; rw [hp, good_kind, h2]; rfl
  · rw [tokAt_C, tokC, h2]; rfl
theorem one_word_no {l : List UInt8} {c : UInt8} {r : List UInt8} (hl : l = c :: r) (hc : letterB c.toNat = true) (hk : keyL.contains (l.take (wordN l)) = false) (hn : nameB (l.take (wordN l)) = false) : oneN l = 0 := by
  have h1 : 1 ≤ wordN l := by rw [hl]; exact wordN_pos (letter_word hc)
  have hp := piece_word h1
  obtain ⟨t, ht⟩ : ∃ t, l.take (wordN l) = c :: t := by have := @take_first c r (wordN l) h1; rw [← hl] at this; exact this
  unfold oneN
  rw [hp, good_kind]
  have : kindL (l.take (wordN l)) = 0 := by
    unfold kindL
    rw [hn, hk, ht, not_sym (letter_word hc), not_lit (letter_not_digit hc)]; rfl
  rw [this]; rfl
theorem one_digit {l : List UInt8} {c : UInt8} {r : List UInt8} (hl : l = c :: r) (hc : letterB c.toNat = false) (hd : digitB c.toNat = true) : (litB (l.take (wordN l)) = true → oneN l = wordN l ∧ tokAt (l.take (wordN l)) 0 = ⟨3, 0, ⟨#[]⟩, decN (l.take (wordN l))⟩) ∧ (litB (l.take (wordN l)) = false → oneN l = 0) := by
  have h1 : 1 ≤ wordN l := by rw [hl]; exact wordN_pos (digit_word hd)
  have hp := piece_word h1
  obtain ⟨t, ht⟩ : ∃ t, l.take (wordN l) = c :: t := by have := @take_first c r (wordN l) h1; rw [← hl] at this; exact this
  have hk : kindL (l.take (wordN l)) = if litB (l.take (wordN l)) = true then 3 else 0 := by
    unfold kindL
    rw [ht, not_name hc, not_key hc, not_sym (digit_word hd)]; rfl
  refine ⟨fun h => ?_, fun h => ?_⟩
  · rw [h, if_pos rfl] at hk
    refine ⟨?_, ?_⟩
    · unfold oneN; rw [hp, good_kind, hk]; rfl
    · rw [tokAt_C, tokC, hk]; rfl
  · rw [h, if_neg (by simp)] at hk
    unfold oneN; rw [hp, good_kind, hk]; rfl

/-! ### symbols -/
def sym2 : List (List UInt8) := symL.take 7
def sym1 : List (List UInt8) := symL.drop 7
theorem find_pref (m : Nat) (l : List UInt8) : ∀ ks : List (List UInt8), (∀ k ∈ ks, k.length = m) → ks.find? (fun k => prefB k l) = if m ≤ l.length ∧ ks.contains (l.take m) = true then some (l.take m) else none
  | [], _ => by simp
  | k :: ks, h => by
    have hk := h k (by simp)
    rw [List.find?_cons]
    have ih := find_pref m l ks (fun x hx => h x (by simp [hx]))
    cases hp : prefB k l with
    | true =>
      unfold prefB at hp
      simp only [Bool.and_eq_true, decide_eq_true_eq, beq_iff_eq] at hp
      rw [hk] at hp
      rw [if_pos ⟨hp.1, by rw [hp.2]; simp⟩, hp.2]
    | false =>
      rw [ih]
      by_cases hm : m ≤ l.length
      · have hne : ¬ l.take m = k := fun e => by
          unfold prefB at hp
          rw [hk, e] at hp
          simp [hm] at hp
        have : (k :: ks).contains (l.take m) = ks.contains (l.take m) := by
          rw [List.contains_cons, show (l.take m == k) = false from beq_eq_false_iff_ne.2 hne]; simp
        rw [this]
      · rw [if_neg (fun h => hm h.1), if_neg (fun h => hm h.1)]
theorem symN_eq (l : List UInt8) : symN l = if 2 ≤ l.length ∧ sym2.contains (l.take 2) = true then 2 else if 1 ≤ l.length ∧ sym1.contains (l.take 1) = true then 1 else 0 := by
  unfold symN
  rw [show symL = sym2 ++ sym1 from rfl, List.find?_append, find_pref 2 l sym2 (by decide), find_pref 1 l sym1 (by decide)]
  by_cases h2 : 2 ≤ l.length ∧ sym2.contains (l.take 2) = true
  · rw [if_pos h2, if_pos h2]; simp; omega
  · rw [if_neg h2, if_neg h2]
    by_cases h1 : 1 ≤ l.length ∧ sym1.contains (l.take 1) = true
    · rw [if_pos h1, if_pos h1]; simp; omega
    · rw [if_neg h1, if_neg h1]; rfl
theorem sym2_len : ∀ x ∈ sym2, x.length = 2 := by decide
theorem sym1_len : ∀ x ∈ sym1, x.length = 1 := by decide
theorem contains_two {l : List UInt8} (h : 2 ≤ l.length) : symL.contains (l.take 2) = sym2.contains (l.take 2) := by
  rw [show symL = sym2 ++ sym1 from rfl, List.contains_eq_mem, List.contains_eq_mem]
  congr 1
  rw [List.mem_append]
  exact propext ⟨fun h' => h'.elim id fun h1 => by have := sym1_len _ h1; rw [List.length_take] at this; omega, Or.inl⟩
theorem contains_one {l : List UInt8} (h : 1 ≤ l.length) : symL.contains (l.take 1) = sym1.contains (l.take 1) := by
  rw [show symL = sym2 ++ sym1 from rfl, List.contains_eq_mem, List.contains_eq_mem]
  congr 1
  rw [List.mem_append]
  exact propext ⟨fun h' => h'.elim (fun h1 => by have := sym2_len _ h1; rw [List.length_take] at this; omega) id, Or.inr⟩
theorem kind_sym {l : List UInt8} (h : symL.contains l = true) : kindL l = 4 := by
  have hm : l ∈ symL := by simpa using h
  have h1 : ∀ x ∈ symL, kindL x = 4 := by decide
  exact h1 l hm
theorem one_symbol {l : List UInt8} {c : UInt8} {r : List UInt8} (hl : l = c :: r) (hc : letterB c.toNat = false) (hd : digitB c.toNat = false) : oneN l = symN l ∧ (symN l ≠ 0 → tokAt (l.take (symN l)) 0 = ⟨4, 0, str (l.take (symN l)), 0⟩) := by
  have h1 : 1 ≤ l.length := by rw [hl]; simp
  have key : ∀ m, symL.contains (l.take m) = true → tokAt (l.take m) 0 = ⟨4, 0, str (l.take m), 0⟩ := fun m h => by
    rw [tokAt_C, tokC, kind_sym h]; rfl
  by_cases hw : wordU c = true
  · -- an underscore
    have hnone : ∀ m, 1 ≤ m → symL.contains (l.take m) = false := fun m hm => by
      obtain ⟨t, ht⟩ := @take_first c r m hm
      rw [hl, ht]; exact not_sym hw
    have hz : symN l = 0 := by
      rw [symN_eq, if_neg (fun h => by rw [← contains_two h.1, hnone 2 (by omega)] at h; cases h.2), if_neg (fun h => by rw [← contains_one h.1, hnone 1 (by omega)] at h; cases h.2)]
    have hw1 : 1 ≤ wordN l := by rw [hl]; exact wordN_pos hw
    obtain ⟨t, ht⟩ := @take_first c r (wordN l) hw1
    rw [← hl] at ht
    have hk : kindL (l.take (wordN l)) = 0 := by
      unfold kindL
      rw [ht, not_name hc, not_key hc, not_sym hw, not_lit hd]; rfl
    refine ⟨?_, fun h => absurd hz h⟩
    rw [hz]; unfold oneN; rw [piece_word hw1, good_kind, hk]; rfl
  · have hw : wordU c = false := by simpa using hw
    have hw0 : wordN l = 0 := by rw [hl]; exact wordN_zero hw
    by_cases h2 : 2 ≤ l.length ∧ sym2.contains (l.take 2) = true
    · have hz : symN l = 2 := by rw [symN_eq, if_pos h2]
      have hc2 : symL.contains (l.take 2) = true := by rw [contains_two h2.1]; exact h2.2
      have hp : pieceN l = 2 := by unfold pieceN; rw [hw0, if_neg (by omega), if_pos ⟨by omega, hc2⟩]
      refine ⟨?_, fun _ => by rw [hz]; exact key 2 hc2⟩
      rw [hz]; unfold oneN; rw [hp, good_kind, kind_sym hc2]; rfl
    · have hp : pieceN l = 1 := by
        unfold pieceN
        rw [hw0, if_neg (by omega), if_neg (fun h => h2 ⟨by omega, by rw [← contains_two (by omega)]; exact h.2⟩)]
      by_cases h3 : sym1.contains (l.take 1) = true
      · have hz : symN l = 1 := by rw [symN_eq, if_neg h2, if_pos ⟨h1, h3⟩]
        have hc1 : symL.contains (l.take 1) = true := by rw [contains_one h1]; exact h3
        refine ⟨?_, fun _ => by rw [hz]; exact key 1 hc1⟩
        rw [hz]; unfold oneN; rw [hp, good_kind, kind_sym hc1]; rfl
      · have hz : symN l = 0 := by rw [symN_eq, if_neg h2, if_neg (fun h => h3 h.2)]
        have hc1 : symL.contains (l.take 1) = false := by rw [contains_one h1]; simpa using h3
        have hk : kindL (l.take 1) = 0 := by
          unfold kindL
          rw [hc1, hl]
          rw [show (c :: r).take 1 = c :: [] by simp, not_name hc, not_key hc, not_lit hd]; rfl
        refine ⟨?_, fun h => absurd hz h⟩
        rw [hz]; unfold oneN; rw [hp, good_kind, hk]; rfl

end Go.Proofs.YtalbcgbfefgjfaaDoor
