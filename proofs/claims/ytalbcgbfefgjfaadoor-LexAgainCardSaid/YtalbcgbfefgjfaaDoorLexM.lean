
/-
  TOKENS: lex.May, the function with which lex.Same compares; lex.stops, lex.apart.
-/
import Derived.Test.YtalbcgbfefgjfaaDoorLexW
namespace Go.Proofs.YtalbcgbfefgjfaaDoor
open Go Go.RowKit

theorem after {w a b : World} (h : Below w.heap.size w a) (k : Below a.heap.size a b) : Below w.heap.size w b := h.trans (k.mono h.size)
theorem belowC {W w1 : World} (hb : Below W.heap.size W w1) : (∀ b o, b < W.heap.size → w1.cell? ⟨b, o, none⟩ = W.cell? ⟨b, o, none⟩) ∧ (∀ b o, b < W.heap.size → w1.frozen? ⟨b, o, none⟩ = W.frozen? ⟨b, o, none⟩) :=
  ⟨fun _ _ h => hb.cell h, fun _ _ h => hb.frozen h⟩

/-- A token. -/
structure Tok where
  k : Int
  line : Int
  t : ByteArray
  n : Int
def Tok.v (x : Tok) : Value := .agg #[.int .u8 x.k, .int .i64 x.line, .string x.t, .int .i64 x.n]
def mayB (k : Int) (t : ByteArray) (n : Int) : Bool :=
  if k = 1 then nameB t.toList && n == 0 else
  if k = 2 then keyB t && n == 0 else
  if k = 4 then symB t && n == 0 else
  if k = 3 then t.toList == [] && decide (0 ≤ n ∧ n ≤ 2147483647) else
  false

theorem may_any (k line : Int) (t : ByteArray) (n : Int) (w : World) (hs : t.size ≤ 9223372036854775807) : Calls Tryd.prog 20 #[.agg #[.int .u8 k, .int .i64 line, .string t, .int .i64 n]] w (Gives w (.bool (mayB k t n))) := by
  have hn : ∀ b : Bool, (n == 0) = b → ((n == 0) = b) := fun _ h => h
  by_cases h1 : k = 1
  · subst h1
    rw [show mayB 1 t n = (nameB t.toList && n == 0) from rfl]
    cases h2 : nameB t.toList
    all_goals cases h3 : (n == 0)
    all_goals clear hn
    all_goals
      go_enter Tryd.func20, Tryd.ntmps20
      go_wp2_with (go_at_call 13; refine (name_any _ _ hs).mono ?_; rw [h2]; rintro e w1 ⟨rfl, hb⟩; obtain ⟨hc1, hf1⟩ := belowC hb)
      go_returns
      exact ⟨rfl, by (repeat' (first | (with_reducible exact Below.refl _ _) | (with_reducible assumption) | (with_reducible refine boxed ?_ _) | (with_reducible refine Below.drew ?_) | (with_reducible refine after ?_ (by assumption))))⟩
  · by_cases h2 : k = 2
    · subst h2
      rw [show mayB 2 t n = (keyB t && n == 0) from rfl]
      cases h2 : keyB t
      all_goals cases h3 : (n == 0)
      all_goals clear hn
      all_goals
        go_enter Tryd.func20, Tryd.ntmps20
        go_wp2_with (go_at_call 15; refine (key_any _ _).mono ?_; rw [h2]; rintro e w1 ⟨rfl, rfl⟩)
        go_returns
        exact ⟨rfl, by (repeat' (first | (with_reducible exact Below.refl _ _) | (with_reducible assumption) | (with_reducible refine boxed ?_ _) | (with_reducible refine Below.drew ?_) | (with_reducible refine after ?_ (by assumption))))⟩
    · by_cases h4 : k = 4
      · subst h4
        rw [show mayB 4 t n = (symB t && n == 0) from rfl]
        cases h2 : symB t
        all_goals cases h3 : (n == 0)
        all_goals clear hn
        all_goals
          go_enter Tryd.func20, Tryd.ntmps20
          go_wp2_with (go_at_call 17; refine (symbol_any _ _).mono ?_; rw [h2]; rintro e w1 ⟨rfl, rfl⟩)
          go_returns
          exact ⟨rfl, by (repeat' (first | (with_reducible exact Below.refl _ _) | (with_reducible assumption) | (with_reducible refine boxed ?_ _) | (with_reducible refine Below.drew ?_) | (with_reducible refine after ?_ (by assumption))))⟩
      · by_cases h3 : k = 3
        · subst h3
          rw [show mayB 3 t n = (t.toList == [] && decide (0 ≤ n ∧ n ≤ 2147483647)) from rfl]
          by_cases he : t.toList = []
          · by_cases g1 : 0 ≤ n
            all_goals by_cases g2 : n ≤ 2147483647
            all_goals try (exfalso; omega)
            all_goals first | rw [decide_eq_true (p := 0 ≤ n ∧ n ≤ 2147483647) (by omega)] | rw [decide_eq_false (p := 0 ≤ n ∧ n ≤ 2147483647) (by omega)]
            all_goals clear hn
            all_goals rw [he]
            all_goals
              go_enter Tryd.func20, Tryd.ntmps20
              go_wp2
              go_returns
              exact ⟨rfl, by (repeat' (first | (with_reducible exact Below.refl _ _) | (with_reducible assumption) | (with_reducible refine boxed ?_ _) | (with_reducible refine Below.drew ?_) | (with_reducible refine after ?_ (by assumption))))⟩
          · have hb : (t.toList == []) = false := beq_eq_false_iff_ne.2 he
            rw [hb, Bool.false_and]
            clear hn he
            go_enter Tryd.func20, Tryd.ntmps20
            go_wp2
            go_returns
            exact ⟨rfl, by (repeat' (first | (with_reducible exact Below.refl _ _) | (with_reducible assumption) | (with_reducible refine boxed ?_ _) | (with_reducible refine Below.drew ?_) | (with_reducible refine after ?_ (by assumption))))⟩
        · rw [show mayB k t n = false by unfold mayB; rw [if_neg h1, if_neg h2, if_neg h4, if_neg h3]]
          have b1 : (k == 1) = false := beq_eq_false_iff_ne.2 h1
          have b2 : (k == 2) = false := beq_eq_false_iff_ne.2 h2
          have b3 : (k == 3) = false := beq_eq_false_iff_ne.2 h3
          have b4 : (k == 4) = false := beq_eq_false_iff_ne.2 h4
          clear hn h1 h2 h3 h4
          go_enter Tryd.func20, Tryd.ntmps20
          go_wp2
          go_returns
          exact ⟨rfl, by (repeat' (first | (with_reducible exact Below.refl _ _) | (with_reducible assumption) | (with_reducible refine boxed ?_ _) | (with_reducible refine Below.drew ?_) | (with_reducible refine after ?_ (by assumption))))⟩

/-- Are two tokens equal but for their lines? -/
def likeB (k : Int) (t : ByteArray) (n : Int) (k' : Int) (t' : ByteArray) (n' : Int) : Bool := k == k' && (t.toList == t'.toList && n == n')

theorem like_any (k l : Int) (t : ByteArray) (n k' l' : Int) (t' : ByteArray) (n' : Int) (w : World) :
    Calls Tryd.prog 51 #[.agg #[.int .u8 k, .int .i64 l, .string t, .int .i64 n], .agg #[.int .u8 k', .int .i64 l', .string t', .int .i64 n']] w (Gives w (.bool (likeB k t n k' t' n'))) := by
  unfold likeB
  cases h1 : (k == k')
  all_goals cases h2 : (t.toList == t'.toList)
  all_goals cases h3 : (n == n')
  all_goals
    go_enter Tryd.func51, Tryd.ntmps51
    go_wp2
    go_returns
    exact ⟨rfl, by (repeat' (first | (with_reducible exact Below.refl _ _) | (with_reducible assumption) | (with_reducible refine boxed ?_ _) | (with_reducible refine Below.drew ?_) | (with_reducible refine after ?_ (by assumption))))⟩

/-! ### which tokens stand apart -/
def stopsB (s : ByteArray) : Bool := s.toList == [46] || s.toList == [46, 46]
def apartB (a b : ByteArray) : Bool :=
  if b.toList = [44] ∨ b.toList = [59] ∨ b.toList = [41] ∨ b.toList = [39] then false else
  if a.toList = [40] ∨ a.toList = [39] then false else
  if ¬ a.toList = [46] ∧ ¬ b.toList = [46] then true else stopsB a && stopsB b

theorem stops_any (s : ByteArray) (w : World) : Calls Tryd.prog 94 #[.string s] w fun e w' => e = .returned (.bool (stopsB s)) ∧ w = w' := by
  unfold stopsB
  cases h1 : (s.toList == [46])
  all_goals cases h2 : (s.toList == [46, 46])
  all_goals
    go_enter Tryd.func94, Tryd.ntmps94
    go_wp2
    go_returns
    exact ⟨rfl, rfl⟩

end Go.Proofs.YtalbcgbfefgjfaaDoor
