
/-
  THE TEXT OF TOKENS, AS PLAIN MATHEMATICS.
-/
import Derived.Test.YtalbcgbfefgjfaaDoorLexP2
import Derived.Lib.ItoaNum
namespace Go.Proofs.YtalbcgbfefgjfaaDoor
open Go Go.RowKit

def tokText (x : TokR) : List UInt8 := textL x.k x.t x.n
def sepL (a b : TokR) : List UInt8 := if apartV a.t b.t = true then [32] else []
def joinFrom : Option TokR → List TokR → List UInt8
  | _, [] => []
  | none, x :: xs => tokText x ++ joinFrom (some x) xs
  | some a, x :: xs => sepL a x ++ (tokText x ++ joinFrom (some x) xs)
/-- The text of tokens. -/
def joinL (xs : List TokR) : List UInt8 := joinFrom none xs

theorem joinFrom_snoc : ∀ (ys : List TokR) (p : Option TokR) (y x : TokR), joinFrom p (ys ++ [y] ++ [x]) = joinFrom p (ys ++ [y]) ++ (sepL y x ++ tokText x)
  | [], none, y, x => by simp [joinFrom]
  | [], some a, y, x => by simp [joinFrom]
  | z :: ys, none, y, x => by
    have := joinFrom_snoc ys (some z) y x
    simp only [List.cons_append, joinFrom] at this ⊢
    rw [this]; simp
  | z :: ys, some a, y, x => by
    have := joinFrom_snoc ys (some z) y x
    simp only [List.cons_append, joinFrom] at this ⊢
    rw [this]; simp
theorem take_add_one {xs : List TokR} {k : Nat} {x : TokR} (h : xs[k]? = some x) : xs.take (k + 1) = xs.take k ++ [x] := by
  obtain ⟨hk, rfl⟩ := List.getElem?_eq_some_iff.1 h
  rw [List.take_succ_eq_append_getElem hk]
theorem joinL_zero (xs : List TokR) : joinL (xs.take 0) = [] := by simp [joinL, joinFrom]
theorem joinL_first {xs : List TokR} {x : TokR} (h : xs[0]? = some x) : joinL (xs.take 1) = tokText x := by
  rw [take_add_one h]; simp [joinL, joinFrom]
theorem joinL_next {xs : List TokR} {j : Nat} {y x : TokR} (hy : xs[j]? = some y) (hx : xs[j + 1]? = some x) : joinL (xs.take (j + 1 + 1)) = joinL (xs.take (j + 1)) ++ (sepL y x ++ tokText x) := by
  rw [take_add_one hx, take_add_one hy]
  exact joinFrom_snoc _ _ _ _

theorem decL_digits : ∀ (n u : Nat), u ≤ n → Lib.decDigits u = decL u := by
  intro n
  induction n with
  | zero =>
    intro u h
    obtain rfl : u = 0 := by omega
    rw [Lib.decDigits, decL]; rfl
  | succ n ih =>
    intro u h
    rw [Lib.decDigits, decL]
    by_cases hu : u < 10
    · rw [dif_pos hu, if_pos hu, Nat.mod_eq_of_lt hu]
      rw [UInt8.ofNat_add]; rfl
    · rw [dif_neg hu, if_neg hu, ih (u / 10) (by omega), UInt8.ofNat_add]; rfl
theorem itoa_dec {n : Int} (h : 0 ≤ n) : Lib.itoa n = decL n.toNat := by
  rw [Lib.itoa, if_neg (by omega)]
  exact decL_digits _ _ (Nat.le_refl _)

/-- How long the text of a token is. -/
theorem keyL_len : ∀ x ∈ keyL, x.length ≤ 9 := by decide
theorem symL_len : ∀ x ∈ symL, x.length ≤ 2 := by decide
theorem tokText_len {x : TokR} (h : mayT x = true) : (tokText x).length ≤ 32 := by
  unfold mayT mayB at h
  unfold tokText textL
  by_cases h3 : x.k = 3
  · rw [if_pos h3]
    rw [if_neg (by omega), if_neg (by omega), if_neg (by omega), if_pos h3] at h
    simp only [Bool.and_eq_true, decide_eq_true_eq] at h
    have := decL_len 9 x.n.toNat (by have := h.2; omega)
    omega
  · rw [if_neg h3]
    by_cases h1 : x.k = 1
    · rw [if_pos h1] at h
      simp only [Bool.and_eq_true] at h
      have := h.1
      unfold nameB at this
      simp only [Bool.and_eq_true, decide_eq_true_eq] at this
      omega
    · rw [if_neg h1] at h
      by_cases h2 : x.k = 2
      · rw [if_pos h2] at h
        simp only [Bool.and_eq_true, keyB, List.contains_eq_mem, decide_eq_true_eq] at h
        have := keyL_len _ h.1
        omega
      · rw [if_neg h2] at h
        by_cases h4 : x.k = 4
        · rw [if_pos h4] at h
          simp only [Bool.and_eq_true, symB, List.contains_eq_mem, decide_eq_true_eq] at h
          have := symL_len _ h.1
          omega
        · rw [if_neg h4, if_neg h3] at h; cases h
theorem tokText_str {x : TokR} (h : x.k ≠ 3) : tokText x = x.t.toList := by unfold tokText textL; rw [if_neg h]
theorem tokText_int {x : TokR} (h : x.k = 3) (hm : mayT x = true) : tokText x = Lib.itoa x.n ∧ 0 ≤ x.n ∧ x.n ≤ 2147483647 := by
  unfold mayT mayB at hm
  rw [if_neg (by omega), if_neg (by omega), if_neg (by omega), if_pos h] at hm
  simp only [Bool.and_eq_true, decide_eq_true_eq] at hm
  refine ⟨?_, hm.2⟩
  unfold tokText textL
  rw [if_pos h, itoa_dec hm.2.1]

theorem joinFrom_len : ∀ (xs : List TokR) (p : Option TokR), (∀ x ∈ xs, mayT x = true) → (joinFrom p xs).length ≤ 33 * xs.length
  | [], p, _ => by cases p <;> simp [joinFrom]
  | x :: xs, p, h => by
    have h1 := tokText_len (h x (by simp))
    have h2 := joinFrom_len xs (some x) (fun y hy => h y (by simp [hy]))
    have h3 : ∀ a, (sepL a x).length ≤ 1 := fun a => by unfold sepL; split <;> simp
    cases p with
    | none => simp only [joinFrom, List.length_append, List.length_cons]; omega
    | some a => have := h3 a; simp only [joinFrom, List.length_append, List.length_cons]; omega

/-! ### the reference's close is the negation of lex.apart -/
theorem isB_of {k : Int} {t : ByteArray} {n : Int} (h : mayB k t n = true) {s : ByteArray} (hs : s.toList ∈ symL) : isB k t s = (t.toList == s.toList) := by
  unfold isB
  cases he : (t.toList == s.toList) with
  | false => simp
  | true =>
    have e : t.toList = s.toList := eq_of_beq he
    rw [Bool.and_true, beq_iff_eq]
    rw [← e] at hs
    unfold mayB at h
    have hname : ∀ l ∈ symL, nameB l = false := by decide
    have hkey : ∀ l ∈ symL, keyL.contains l = false := by decide
    have hnil : ∀ l ∈ symL, (l == []) = false := by decide
    by_cases h1 : k = 1
    · rw [if_pos h1, hname _ hs] at h; cases h
    · rw [if_neg h1] at h
      by_cases h2 : k = 2
      · rw [if_pos h2, keyB, hkey _ hs] at h; cases h
      · rw [if_neg h2] at h
        by_cases h4 : k = 4
        · exact h4
        · rw [if_neg h4] at h
          by_cases h3 : k = 3
          · rw [if_pos h3, hnil _ hs] at h; cases h
          · rw [if_neg h3] at h; cases h
theorem close_apart {a b : TokR} (ha : mayT a = true) (hb : mayT b = true) : closeB a.k a.t b.k b.t = !apartV a.t b.t := by
  unfold closeB apartV stopsB
  rw [isB_of hb (s := ⟨#[44]⟩) (by rw [ByteArray.toList_eq]; decide), isB_of hb (s := ⟨#[59]⟩) (by rw [ByteArray.toList_eq]; decide), isB_of hb (s := ⟨#[41]⟩) (by rw [ByteArray.toList_eq]; decide), isB_of hb (s := ⟨#[39]⟩) (by rw [ByteArray.toList_eq]; decide),
    isB_of ha (s := ⟨#[40]⟩) (by rw [ByteArray.toList_eq]; decide), isB_of ha (s := ⟨#[39]⟩) (by rw [ByteArray.toList_eq]; decide), isB_of ha (s := ⟨#[46]⟩) (by rw [ByteArray.toList_eq]; decide), isB_of hb (s := ⟨#[46]⟩) (by rw [ByteArray.toList_eq]; decide), isB_of hb (s := ⟨#[46, 46]⟩) (by rw [ByteArray.toList_eq]; decide), isB_of ha (s := ⟨#[46, 46]⟩) (by rw [ByteArray.toList_eq]; decide)]
  rw [show (⟨#[44]⟩ : ByteArray).toList = [44] from str_toList [44], show (⟨#[59]⟩ : ByteArray).toList = [59] from str_toList [59], show (⟨#[41]⟩ : ByteArray).toList = [41] from str_toList [41], show (⟨#[39]⟩ : ByteArray).toList = [39] from str_toList [39],
    show (⟨#[40]⟩ : ByteArray).toList = [40] from str_toList [40], show (⟨#[46]⟩ : ByteArray).toList = [46] from str_toList [46], show (⟨#[46, 46]⟩ : ByteArray).toList = [46, 46] from str_toList [46, 46]]
  generalize (b.t.toList == [44]) = b1
  generalize (b.t.toList == [59]) = b2
  generalize (b.t.toList == [41]) = b3
  generalize (b.t.toList == [39]) = b4
  generalize (a.t.toList == [40]) = a1
  generalize (a.t.toList == [39]) = a2
  generalize (a.t.toList == [46]) = a3
  generalize (b.t.toList == [46]) = b5
  generalize (b.t.toList == [46, 46]) = b6
  generalize (a.t.toList == [46, 46]) = a4
  revert b1 b2 b3 b4 a1 a2 a3 b5 b6 a4
  decide

end Go.Proofs.YtalbcgbfefgjfaaDoor
