
/-
  THE BYTES, THE RESERVED WORDS AND THE SYMBOLS: what the leaves of package lex and of ceilingref02 answer.
-/
import Derived.Test.YtalbcgbfefgjfaaDoorProg
import Derived.WalkKit
import Derived.WalkSpells
import Derived.WalkLawsBesides
import Derived.Handy
import Derived.Lib.Hide
namespace Go.Proofs.YtalbcgbfefgjfaaDoor
open Go Go.RowKit

/-- What a call answers; it has made new memory at most. -/
def Gives (w : World) (v : Value) (e : Ending) (w' : World) : Prop := e = .returned v ∧ Below w.heap.size w w'
theorem boxed {w a : World} (h : Below w.heap.size w a) (o : Obj) : Below w.heap.size w (a.alloc o) := h.alloc h.size o

def letterB (c : Int) : Bool := decide (65 ≤ c ∧ c ≤ 90 ∨ 97 ≤ c ∧ c ≤ 122)
def digitB (c : Int) : Bool := decide (48 ≤ c ∧ c ≤ 57)
def wordB (c : Int) : Bool := letterB c || digitB c || c == 95

theorem letter_any (c : Int) (w : World) : Calls Tryd.prog 42 #[.int .i32 c] w fun e w' => e = .returned (.bool (letterB c)) ∧ w = w' := by
  by_cases h1 : 65 ≤ c
  all_goals by_cases h2 : c ≤ 90
  all_goals by_cases h3 : 97 ≤ c
  all_goals by_cases h4 : c ≤ 122
  all_goals
    go_enter Tryd.func42, Tryd.ntmps42
    go_wp2
    go_returns
    exact ⟨by first | (rw [letterB, decide_eq_true (by omega)]; rfl) | (rw [letterB, decide_eq_false (by omega)]; rfl), rfl⟩

theorem digit_any (c : Int) (w : World) : Calls Tryd.prog 70 #[.int .i32 c] w fun e w' => e = .returned (.bool (digitB c)) ∧ w = w' := by
  by_cases h1 : 48 ≤ c
  all_goals by_cases h2 : c ≤ 57
  all_goals
    go_enter Tryd.func70, Tryd.ntmps70
    go_wp2
    go_returns
    exact ⟨by first | (rw [digitB, decide_eq_true (by omega)]; rfl) | (rw [digitB, decide_eq_false (by omega)]; rfl), rfl⟩

end Go.Proofs.YtalbcgbfefgjfaaDoor
