
/-
  THE TOKENS OF A TEXT THAT BEGINS AT A LATER LINE, as plain mathematics; the tokens of two texts with a line feed between them.
-/
import Derived.Test.YtalbcgbfefgjfaaDoorLexZ
import Derived.Test.YtalbcgbfefgjfaaDoorLexJm
namespace Go.Proofs.YtalbcgbfefgjfaaDoor
open Go Go.RowKit

/-- A token some lines later. -/
def bump (k : Nat) (x : TokR) : TokR := { x with l := x.l + k }
def Rd.shift (k : Nat) (pre : List TokR) : Rd → Rd
  | .ok l => .ok (pre ++ l.map (bump k))
  | .no n e => .no (n + k) e

theorem tokAt_bump (t : List UInt8) (line k : Nat) : tokAt t ((line + k : Nat) : Int) = bump k (tokAt t (line : Int)) := by
  unfold tokAt bump
  simp

theorem dropWhile_le (p : UInt8 → Bool) : ∀ l : List UInt8, (l.dropWhile p).length ≤ l.length
  | [] => Nat.le_refl _
  | c :: r => by
    rw [List.dropWhile_cons]
    split
    · have := dropWhile_le p r; rw [List.length_cons]; omega
    · exact Nat.le_refl _

theorem lexF_shift (k : Nat) (pre : List TokR) : ∀ (f : Nat) (l : List UInt8) (line : Nat) (acc : List TokR), pre.length + acc.length + l.length ≤ 8192 → lexF f l (line + k) (pre ++ acc.map (bump k)) = (lexF f l line acc).shift k pre
  | 0, _, _, _, _ => rfl
  | _ + 1, [], _, _, _ => rfl
  | f + 1, c :: r, line, acc, h => by
    rw [List.length_cons] at h
    unfold lexF
    split
    · rw [Nat.add_right_comm]; exact lexF_shift k pre f r (line + 1) acc (by omega)
    · split
      · exact lexF_shift k pre f r line acc (by omega)
      · split
        · split
          · exact lexF_shift k pre f _ line acc (by have := dropWhile_le inLine (c :: r); rw [List.length_cons] at this; omega)
          · rfl
        · split
          · have hp := pieceN_pos (c :: r)
            rw [if_neg (by rw [List.length_append, List.length_map]; omega), if_neg (by omega), tokAt_bump, List.append_assoc]
            have e : acc.map (bump k) ++ [bump k (tokAt ((c :: r).take (pieceN (c :: r))) line)] = (acc ++ [tokAt ((c :: r).take (pieceN (c :: r))) line]).map (bump k) := by simp
            rw [e]
            exact lexF_shift k pre f _ line _ (by rw [List.length_append, List.length_drop, List.length_cons, List.length_cons, List.length_nil]; omega)
          · rfl

/-- What is read of a text is no longer than it; its lines are the text's. -/
def Fine (line n : Nat) (acc : List TokR) : Rd → Prop
  | .ok m => m.length ≤ acc.length + n ∧ ∀ x ∈ m, x ∈ acc ∨ ((line : Int) ≤ x.l ∧ x.l ≤ line + n)
  | .no d e => (line ≤ d ∧ d ≤ line + n) ∧ (e = 3 ∨ e = 20)
theorem Fine.wide {line line' n n' : Nat} {acc : List TokR} {r : Rd} (h : Fine line n acc r) (h1 : line' ≤ line) (h2 : line + n ≤ line' + n') (h3 : n ≤ n') : Fine line' n' acc r := by
  cases r with
  | ok m => exact ⟨by have := h.1; omega, fun x hx => (h.2 x hx).imp id fun h => by omega⟩
  | no d e => exact ⟨by have := h.1; omega, h.2⟩
theorem lexF_fine : ∀ (f : Nat) (l : List UInt8) (line : Nat) (acc : List TokR), Fine line l.length acc (lexF f l line acc)
  | 0, l, line, acc => ⟨Nat.le_add_right _ _, fun x hx => Or.inl hx⟩
  | _ + 1, [], line, acc => ⟨Nat.le_refl _, fun x hx => Or.inl hx⟩
  | f + 1, c :: r, line, acc => by
    rw [List.length_cons]
    unfold lexF
    split
    · exact (lexF_fine f r (line + 1) acc).wide (by omega) (by omega) (by omega)
    · split
      · exact (lexF_fine f r line acc).wide (by omega) (by omega) (by omega)
      · split
        · split
          · exact (lexF_fine f _ line acc).wide (by omega) (by have := dropWhile_le inLine (c :: r); rw [List.length_cons] at this; omega) (by have := dropWhile_le inLine (c :: r); rw [List.length_cons] at this; omega)
          · exact ⟨⟨Nat.le_refl _, by omega⟩, Or.inr rfl⟩
        · split
          · split
            · exact ⟨⟨Nat.le_refl _, by omega⟩, Or.inl rfl⟩
            · have hp := pieceN_pos (c :: r)
              have hd : ((c :: r).drop (pieceN (c :: r))).length ≤ r.length := by rw [List.length_drop, List.length_cons]; omega
              have := lexF_fine f ((c :: r).drop (pieceN (c :: r))) line (acc ++ [tokAt ((c :: r).take (pieceN (c :: r))) line])
              generalize lexF f ((c :: r).drop (pieceN (c :: r))) line (acc ++ [tokAt ((c :: r).take (pieceN (c :: r))) line]) = R at this
              cases R with
              | ok m =>
                refine ⟨by have := this.1; rw [List.length_append, List.length_singleton] at this; omega, fun x hx => ?_⟩
                rcases this.2 x hx with h | h
                · rcases List.mem_append.1 h with h | h
                  · exact Or.inl h
                  · obtain rfl := List.mem_singleton.1 h
                    exact Or.inr ⟨Int.le_refl _, by show (line : Int) ≤ _; omega⟩
                · exact Or.inr (by omega)
              | no d e => exact ⟨by have := this.1; omega, this.2⟩
          · exact ⟨⟨Nat.le_refl _, by omega⟩, Or.inr rfl⟩
theorem readL_fine {l : List UInt8} (h : l.length ≤ 65536) : Fine 1 l.length [] (readL l) := by
  unfold readL
  rw [if_neg (by omega)]
  exact lexF_fine _ _ _ _
theorem feeds_le (l : List UInt8) : feeds l ≤ l.length := List.count_le_length

theorem read_join (a b : List UInt8) (ha : a.length ≤ 1500) (hb : b.length ≤ 1500) : readL (a ++ 10 :: b) = (readL a).and (fun l => (readL b).shift (feeds a + 1) l) := by
  have hf := readL_fine (l := a) (by omega)
  unfold readL at hf ⊢
  rw [if_neg (by omega)] at hf
  rw [if_neg (by rw [List.length_append, List.length_cons]; omega), if_neg (by omega), if_neg (by omega), lex_mid _ a b 1 [] (Nat.le_refl _)]
  generalize lexL a 1 [] = R at hf
  cases R with
  | no d e => rfl
  | ok m =>
    have hm : m.length ≤ 1500 := by have := hf.1; simp at this; omega
    have := lexF_shift (feeds a + 1) m (b.length + 1) b 1 [] (by simp; omega)
    rw [List.map_nil, List.append_nil] at this
    show lexF (b.length + 1) b (1 + feeds a + 1) m = _
    rw [Nat.add_assoc]
    exact this

end Go.Proofs.YtalbcgbfefgjfaaDoor
