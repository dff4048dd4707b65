
/-
  WHERE THE ITERATOR OVER THE TOKENS OF A LINE STANDS.
-/
import Derived.Test.YtalbcgbfefgjfaaDoorLexP2
import Derived.Lib.Strings
namespace Go.Proofs.YtalbcgbfefgjfaaDoor
open Go Go.RowKit

theorem keyL_low : ∀ x ∈ keyL, ∀ c ∈ x, c.toNat < 128 := by decide
theorem symL_low : ∀ x ∈ symL, ∀ c ∈ x, c.toNat < 128 := by decide
theorem wordU_low {c : UInt8} (h : wordU c = true) : c.toNat < 128 := by
  by_cases hc : c.toNat < 128
  · exact hc
  · obtain ⟨g1, g2, g3⟩ := word_high (c.toNat : Int) (by omega)
    simp [wordU, wordB, g1, g2, g3] at h
theorem wordN_all {l : List UInt8} (h : wordN l = l.length) : ∀ c ∈ l, wordU c = true := by
  unfold wordN at h
  have e : l.takeWhile wordU = l := (List.takeWhile_prefix wordU).eq_of_length h
  exact fun c hc => List.all_eq_true.1 (List.all_takeWhile (l := l) (p := wordU)) c (by rw [e]; exact hc)
/-- A token has no bytes from 128 on. -/
theorem good_low {l : List UInt8} (h : goodB l = true) : ∀ c ∈ l, c.toNat < 128 := by
  intro c hc
  cases h1 : nameB l with
  | true =>
    unfold nameB at h1
    simp only [Bool.and_eq_true, decide_eq_true_eq] at h1
    exact wordU_low (wordN_all h1.1.2 c hc)
  | false =>
    cases h2 : keyB (str l) with
    | true =>
      unfold keyB at h2
      rw [str_toList, List.contains_eq_mem, decide_eq_true_eq] at h2
      exact keyL_low _ h2 c hc
    | false =>
      cases h3 : symB (str l) with
      | true =>
        unfold symB at h3
        rw [str_toList, List.contains_eq_mem, decide_eq_true_eq] at h3
        exact symL_low _ h3 c hc
      | false =>
        cases h4 : litB l with
        | true =>
          unfold litB at h4
          simp only [Bool.and_eq_true, decide_eq_true_eq, List.all_eq_true] at h4
          have := (digitU_iff c).1 (h4.2.1 c hc)
          omega
        | false =>
          simp [goodB, tokB, tokK, str_toList, h1, h2, h3, h4] at h

/-- What lies behind the call: nothing in error has come, and all has come; or something in error has come. -/
def SAll (s : ByteArray) (xs : List Item) : Prop := xs.all (·.2) = false ∨ xs = itemsL s.toList
def SPart (s : ByteArray) (pre : List Item) : Prop := ∃ q x, pre = q ++ [x] ∧ (q.all (·.2) = false ∨ (q ++ [x]) <+: itemsL s.toList)

theorem drop_at (l : List UInt8) (k : Nat) (h : k < l.length) : l.drop k = l.getD k 0 :: l.drop (k + 1) := by
  rw [List.drop_eq_getElem_cons h, List.getD_eq_getElem?_getD, List.getElem?_eq_getElem h]; rfl

theorem prefix_note (s : ByteArray) (pos : Nat) : Lib.hasPrefix (s.extract pos s.size).data.toList [45, 45] = decide ((s.toList.drop pos).take 2 = [45, 45]) := by
  rw [← ByteArray.toList_eq, toList_extract, Lib.hasPrefix, Bool.eq_iff_iff, List.isPrefixOf_iff_prefix, List.prefix_iff_eq_take, decide_eq_true_eq]
  rw [List.take_of_length_le (l := s.toList.drop pos) (i := s.size - pos) (by rw [List.length_drop, length_toList]; omega)]
  exact ⟨fun h => h.symm, fun h => h.symm⟩
theorem rest_list (s : ByteArray) (pos : Nat) : (s.extract pos s.size).toList = s.toList.drop pos := by
  rw [toList_extract, List.take_of_length_le (by rw [List.length_drop, length_toList]; omega)]

theorem piece_size {r q : ByteArray} {l : List UInt8} (hr : r.size ≤ 9223372036854775807) (hl : r.toList = l) (hq : q.toList = l.take (pieceN l)) : q.size ≤ 9223372036854775807 := by
  rw [← length_toList] at hr ⊢
  rw [hq, ← hl, List.length_take]
  omega

/-- The loop's relation. -/
def InRun (s : ByteArray) (pos ed : Nat) (pre : List Item) : Prop :=
  pre.length ≤ pos ∧ (pre.all (·.2) = false ∨ (pre ++ itemsL (s.toList.drop (max pos ed)) = itemsL s.toList ∧ ∀ i, pos ≤ i → i < ed → (s.toList.getD i 0).toNat < 128))

theorem InRun.start (s : ByteArray) : InRun s 0 0 [] := ⟨Nat.le_refl _, Or.inr ⟨by simp, fun i _ h => by omega⟩⟩
/-- Inside a token. -/
theorem InRun.skip {s : ByteArray} {pos ed k : Nat} {pre : List Item} (h : InRun s pos ed pre) (hlt : pos < ed) (h1 : 1 ≤ k) (hk : (s.toList.getD pos 0).toNat < 128 → k = 1) : InRun s (pos + k) ed pre := by
  refine ⟨by have := h.1; omega, ?_⟩
  rcases h.2 with hb | ⟨he, hl⟩
  · exact Or.inl hb
  · obtain rfl := hk (hl pos (Nat.le_refl _) hlt)
    exact Or.inr ⟨by rw [show max (pos + 1) ed = max pos ed by omega]; exact he, fun i hi hi2 => hl i (by omega) hi2⟩
/-- A space. -/
theorem InRun.space {s : ByteArray} {pos ed : Nat} {pre : List Item} (h : InRun s pos ed pre) (hle : ed ≤ pos) (hp : pos < s.size) (hc : s.toList.getD pos 0 = 32) : InRun s (pos + 1) ed pre := by
  refine ⟨by have := h.1; omega, ?_⟩
  rcases h.2 with hb | ⟨he, hl⟩
  · exact Or.inl hb
  · refine Or.inr ⟨?_, fun i hi hi2 => by omega⟩
    rw [show max pos ed = pos by omega, drop_at _ _ (by rw [length_toList]; exact hp), hc, itemsL_space] at he
    rw [show max (pos + 1) ed = pos + 1 by omega]; exact he
/-- A note. -/
theorem InRun.note {s : ByteArray} {pos ed : Nat} {pre : List Item} (h : InRun s pos ed pre) (hle : ed ≤ pos) (h2 : (s.toList.drop pos).take 2 = [45, 45]) (hp : (s.toList.drop pos).all printU = true) : SAll s pre := by
  rcases h.2 with hb | ⟨he, _⟩
  · exact Or.inl hb
  · refine Or.inr ?_
    rw [show max pos ed = pos by omega, itemsL_note h2, hp, if_pos rfl, List.append_nil] at he
    exact he
theorem InRun.bad {s : ByteArray} {pos ed : Nat} {pre : List Item} (h : InRun s pos ed pre) (hle : ed ≤ pos) (h2 : (s.toList.drop pos).take 2 = [45, 45]) (hp : (s.toList.drop pos).all printU = false) : SPart s (pre ++ [(noTok, false)]) := by
  refine ⟨pre, _, rfl, ?_⟩
  rcases h.2 with hb | ⟨he, _⟩
  · exact Or.inl hb
  · refine Or.inr ?_
    rw [show max pos ed = pos by omega, itemsL_note h2, hp, if_neg (by simp)] at he
    rw [← he]
    exact List.prefix_refl _
/-- A token. -/
theorem InRun.part {s : ByteArray} {pos ed : Nat} {pre : List Item} (h : InRun s pos ed pre) (hle : ed ≤ pos) (hp : pos < s.size) (hc : ¬ s.toList.getD pos 0 = 32) (h2 : ¬ (s.toList.drop pos).take 2 = [45, 45]) : SPart s (pre ++ [itemOf ((s.toList.drop pos).take (pieceN (s.toList.drop pos)))]) := by
  refine ⟨pre, _, rfl, ?_⟩
  rcases h.2 with hb | ⟨he, _⟩
  · exact Or.inl hb
  · refine Or.inr ?_
    have hd := drop_at s.toList pos (by rw [length_toList]; exact hp)
    rw [show max pos ed = pos by omega] at he
    rw [← he]
    rw [hd] at h2 ⊢
    rw [itemsL_tok hc h2]
    exact ⟨itemsL ((s.toList.getD pos 0 :: s.toList.drop (pos + 1)).drop (pieceN (s.toList.getD pos 0 :: s.toList.drop (pos + 1)))), by rw [List.append_assoc]; rfl⟩
theorem InRun.next {s : ByteArray} {pos ed k : Nat} {pre : List Item} (h : InRun s pos ed pre) (hle : ed ≤ pos) (hp : pos < s.size) (hc : ¬ s.toList.getD pos 0 = 32) (h2 : ¬ (s.toList.drop pos).take 2 = [45, 45]) (h1 : 1 ≤ k) (hk : (s.toList.getD pos 0).toNat < 128 → k = 1) :
    InRun s (pos + k) (pos + pieceN (s.toList.drop pos)) (pre ++ [itemOf ((s.toList.drop pos).take (pieceN (s.toList.drop pos)))]) := by
  have hd := drop_at s.toList pos (by rw [length_toList]; exact hp)
  have hp1 := pieceN_pos (s.toList.drop pos)
  have hpl := pieceN_le (s.toList.drop pos) (by rw [hd]; simp)
  refine ⟨by have := h.1; simp; omega, ?_⟩
  cases hg : goodB ((s.toList.drop pos).take (pieceN (s.toList.drop pos))) with
  | false => exact Or.inl (by simp [itemOf, hg])
  | true =>
    have hlow : ∀ i, pos ≤ i → i < pos + pieceN (s.toList.drop pos) → (s.toList.getD i 0).toNat < 128 := fun i hi hi2 => by
      refine good_low hg _ ?_
      rw [List.length_drop] at hpl
      have hi3 : i < s.toList.length := by omega
      rw [List.getD_eq_getElem?_getD, List.getElem?_eq_getElem hi3, Option.getD_some]
      refine List.mem_of_getElem? (i := i - pos) ?_
      rw [List.getElem?_take_of_lt (by omega), List.getElem?_drop, show pos + (i - pos) = i by omega, List.getElem?_eq_getElem hi3]
    obtain rfl := hk (hlow pos (Nat.le_refl _) (by omega))
    rcases h.2 with hb | ⟨he, _⟩
    · exact Or.inl (by simp [hb])
    · refine Or.inr ⟨?_, fun i hi hi2 => hlow i (by omega) hi2⟩
      rw [show max pos ed = pos by omega, hd] at he
      rw [hd] at h2
      rw [itemsL_tok hc h2, ← hd] at he
      rw [show max (pos + 1) (pos + pieceN (s.toList.drop pos)) = pos + pieceN (s.toList.drop pos) by omega, ← he, List.drop_drop]
      simp
theorem InRun.done {s : ByteArray} {pos ed : Nat} {pre : List Item} (h : InRun s pos ed pre) (hp : s.size ≤ pos) : SAll s pre := by
  rcases h.2 with hb | ⟨he, _⟩
  · exact Or.inl hb
  · refine Or.inr ?_
    rw [List.drop_eq_nil_of_le (by rw [length_toList]; omega), itemsL_nil, List.append_nil] at he
    exact he

/-! ### what the rounds collect -/
def atLine (line : Nat) (y : Item) : TokR := { y.1 with l := line }
def accOf (acc : List TokR) (line : Nat) (pre : List Item) : List TokR := acc ++ pre.map (atLine line)
theorem accOf_nil (acc : List TokR) (line : Nat) : accOf acc line [] = acc := by simp [accOf]
theorem accOf_snoc (acc : List TokR) (line : Nat) (pre : List Item) (y : Item) : accOf acc line (pre ++ [y]) = accOf acc line pre ++ [atLine line y] := by simp [accOf]
theorem accOf_cons (acc : List TokR) (line : Nat) (pre : List Item) (y : Item) : accOf acc line (y :: pre) = accOf (acc ++ [atLine line y]) line pre := by simp [accOf]
theorem foldI_front : ∀ (q t : List Item) (line : Nat) (acc : List TokR), q.all (·.2) = true → (accOf acc line q).length ≤ 8192 → foldI (q ++ t) line acc = foldI t line (accOf acc line q)
  | [], t, line, acc, _, _ => by rw [accOf_nil]; rfl
  | (z, b) :: q, t, line, acc, h, hl => by
    simp only [List.all_cons, Bool.and_eq_true] at h
    obtain ⟨rfl, h⟩ := h
    have hacc : ¬ acc.length = 8192 := by
      simp [accOf] at hl; omega
    rw [List.cons_append, foldI, if_pos rfl, if_neg hacc, accOf_cons]
    exact foldI_front q t line _ h (by rw [accOf_cons] at hl; exact hl)
theorem foldI_good {xs : List Item} {line : Nat} {acc : List TokR} (h : xs.all (·.2) = true) (hl : (accOf acc line xs).length ≤ 8192) : foldI xs line acc = .ok (accOf acc line xs) := by
  have := foldI_front xs [] line acc h hl
  rw [List.append_nil] at this
  rw [this]; rfl
theorem foldI_bad {q t : List Item} {y : Item} {line : Nat} {acc : List TokR} (h : q.all (·.2) = true) (hl : (accOf acc line q).length ≤ 8192) (hy : y.2 = false) : foldI (q ++ y :: t) line acc = .no line 20 := by
  rw [foldI_front q _ line acc h hl]
  obtain ⟨z, b⟩ := y
  obtain rfl : b = false := hy
  rfl
theorem foldI_long {q t : List Item} {y : Item} {line : Nat} {acc : List TokR} (h : q.all (·.2) = true) (hl : (accOf acc line q).length = 8192) (hy : y.2 = true) : foldI (q ++ y :: t) line acc = .no line 3 := by
  rw [foldI_front q _ line acc h (by omega)]
  obtain ⟨z, b⟩ := y
  obtain rfl : b = true := hy
  rw [foldI, if_pos rfl, if_pos hl]
theorem SAll.items {s : ByteArray} {xs : List Item} (h : SAll s xs) (hg : xs.all (·.2) = true) : xs = itemsL s.toList := by
  rcases h with h | h
  · rw [hg] at h; cases h
  · exact h
theorem SPart.front {s : ByteArray} {q : List Item} {y : Item} (h : SPart s (q ++ [y])) (hg : q.all (·.2) = true) : ∃ t, itemsL s.toList = q ++ y :: t := by
  obtain ⟨q', y', e, h⟩ := h
  obtain ⟨rfl, e2⟩ := List.append_inj' e rfl
  obtain rfl : y = y' := by simpa using e2
  rcases h with h | ⟨t, h⟩
  · rw [hg] at h; cases h
  · exact ⟨t, by rw [← h]; simp⟩

end Go.Proofs.YtalbcgbfefgjfaaDoor
