
/-
  READING AND WRITING AS THE KERNEL RECKONS THEM: over lists of bytes alone.
-/
import Derived.Test.YtalbcgbfefgjfaaDoorLexLn
namespace Go.Proofs.YtalbcgbfefgjfaaDoor
open Go Go.RowKit

def kindL (l : List UInt8) : Int := if nameB l = true then 1 else if keyL.contains l = true then 2 else if symL.contains l = true then 4 else if litB l = true then 3 else 0
theorem kind_str (l : List UInt8) : tokK (str l) = kindL l := by unfold tokK kindL keyB symB; rw [str_toList]
theorem good_kind (l : List UInt8) : goodB l = !(kindL l == 0) := by unfold goodB tokB; rw [kind_str]
def tokC (l : List UInt8) (line : Int) : TokR := ⟨kindL l, line, if kindL l = 3 ∨ kindL l = 0 then ⟨#[]⟩ else str l, if kindL l = 3 then decN l else 0⟩
theorem tokAt_C (l : List UInt8) (line : Int) : tokAt l line = tokC l line := by
  unfold tokAt tokC
  rw [show tokN (str l) = (if kindL l = 3 then decN l else 0) by unfold tokN; rw [kind_str, str_toList], kind_str]
  congr 1
  unfold tokT kindL keyB symB
  rw [str_toList]
  cases nameB l <;> cases keyL.contains l <;> cases symL.contains l <;> cases litB l <;> simp
def lexC : Nat → List UInt8 → Nat → List TokR → Rd
  | 0, _, _, acc => .ok acc
  | _ + 1, [], _, acc => .ok acc
  | f + 1, c :: r, line, acc =>
    if c = 10 then lexC f r (line + 1) acc else
    if c = 32 then lexC f r line acc else
    if (c :: r).take 2 = [45, 45] then
      if ((c :: r).takeWhile inLine).all printU then lexC f ((c :: r).dropWhile inLine) line acc else .no line 20
    else
      if !(kindL ((c :: r).take (pieceN (c :: r))) == 0) then
        if acc.length = 8192 then .no line 3 else lexC f ((c :: r).drop (pieceN (c :: r))) line (acc ++ [tokC ((c :: r).take (pieceN (c :: r))) line])
      else .no line 20
theorem lexF_C : ∀ (f : Nat) (l : List UInt8) (line : Nat) (acc : List TokR), lexF f l line acc = lexC f l line acc
  | 0, _, _, _ => rfl
  | _ + 1, [], _, _ => rfl
  | f + 1, c :: r, line, acc => by
    unfold lexF lexC
    rw [good_kind, tokAt_C]
    simp only [lexF_C f]
def readC (l : List UInt8) : Rd := if 65536 < l.length then .no 0 3 else lexC (l.length + 1) l 1 []
theorem readL_C (l : List UInt8) : readL l = readC l := by unfold readL readC lexL; rw [lexF_C]

/-- Kind, text, number. -/
abbrev Tri := Int × List UInt8 × Int
def tkOf (line : Int) (x : Tri) : TokR := ⟨x.1, line, str x.2.1, x.2.2⟩
def mayC (x : Tri) : Bool :=
  if x.1 = 1 then nameB x.2.1 && x.2.2 == 0 else
  if x.1 = 2 then keyL.contains x.2.1 && x.2.2 == 0 else
  if x.1 = 4 then symL.contains x.2.1 && x.2.2 == 0 else
  if x.1 = 3 then x.2.1 == [] && decide (0 ≤ x.2.2 ∧ x.2.2 ≤ 2147483647) else
  false
theorem mayT_C (line : Int) (x : Tri) : mayT (tkOf line x) = mayC x := by
  unfold mayT mayB mayC tkOf keyB symB
  simp only [str_toList]
def apartC (a b : List UInt8) : Bool :=
  !(b == [44]) && (!(b == [59]) && (!(b == [41]) && (!(b == [39]) && (!(a == [40]) && (!(a == [39]) &&
    ((!(a == [46]) && !(b == [46])) || ((a == [46] || a == [46, 46]) && (b == [46] || b == [46, 46]))))))))
theorem apart_C (a b : List UInt8) : apartV (str a) (str b) = apartC a b := by
  unfold apartV apartC stopsB
  rw [str_toList, str_toList]
def textC (x : Tri) : List UInt8 := if x.1 = 3 then decL x.2.2.toNat else x.2.1
def joinC : Option Tri → List Tri → List UInt8
  | _, [] => []
  | none, x :: xs => textC x ++ joinC (some x) xs
  | some a, x :: xs => (if apartC a.2.1 x.2.1 = true then [32] else []) ++ (textC x ++ joinC (some x) xs)
theorem text_C (line : Int) (x : Tri) : tokText (tkOf line x) = textC x := by
  unfold tokText textL tkOf textC
  rw [str_toList]
theorem joinFrom_C : ∀ (xs : List Tri) (p : Option Tri), joinFrom (p.map (tkOf 0)) (xs.map (tkOf 0)) = joinC p xs
  | [], p => by cases p <;> rfl
  | x :: xs, none => by
    have := joinFrom_C xs (some x)
    simp only [List.map_cons, Option.map_none, Option.map_some, joinFrom, joinC, text_C] at this ⊢
    rw [this]
  | x :: xs, some a => by
    have := joinFrom_C xs (some x)
    simp only [List.map_cons, Option.map_some, joinFrom, joinC, text_C] at this ⊢
    rw [this]
    unfold sepL
    rw [show apartV (tkOf 0 a).t (tkOf 0 x).t = apartC a.2.1 x.2.1 from apart_C _ _]
theorem joinL_C (xs : List Tri) : joinL (xs.map (tkOf 0)) = joinC none xs := joinFrom_C xs none
theorem all_C (xs : List Tri) : (xs.map (tkOf 0)).all mayT = xs.all mayC := by
  rw [List.all_map]
  congr 1
  funext x
  exact mayT_C 0 x

/-! ### the examples -/
def ex1 : List Tri := [(3, [], 1), (4, [46, 46], 0), (3, [], 3), (4, [61, 62], 0), (1, [88], 0), (4, [39], 0), (1, [70, 105, 114, 115, 116], 0)]
theorem ex1_read : readL [49, 46, 46, 51, 61, 62, 88, 39, 70, 105, 114, 115, 116, 45, 45, 46] = .ok (ex1.map (tkOf 1)) := by rw [readL_C]; rfl
theorem ex2_read : readL [97, 10, 98, 32, 49, 50, 99] = .no 2 20 := by rw [readL_C]; rfl
def ex3 : List Tri := [(1, [88], 0), (4, [46], 0), (4, [46], 0), (1, [89], 0)]
theorem ex3_text : textS (ex3.map (tkOf 0)) = [88, 46, 32, 46, 89] ∧ textE (ex3.map (tkOf 0)) = 0 := by
  unfold textS textE
  rw [all_C, joinL_C]
  exact ⟨by rfl, by rfl⟩
def ex4 : List Tri := [(1, [70], 0), (4, [40], 0), (1, [65], 0), (4, [44], 0), (1, [66], 0), (4, [46], 0), (1, [67], 0), (4, [41], 0)]
theorem ex4_text : textS (ex4.map (tkOf 0)) = [70, 32, 40, 65, 44, 32, 66, 46, 67, 41] ∧ textE (ex4.map (tkOf 0)) = 0 := by
  unfold textS textE
  rw [all_C, joinL_C]
  exact ⟨by rfl, by rfl⟩
def ex5 : List Tri := [(2, [110, 117, 108, 108], 0), (4, [59], 0)]
theorem ex5_lines (p : Option Addr) (n cp : Nat) : linesS [⟨1, p, n, cp, ex5.map (tkOf 0)⟩] = [32, 32, 110, 117, 108, 108, 59, 10] ∧ linesE [⟨1, p, n, cp, ex5.map (tkOf 0)⟩] = 0 := by
  have ht : LineR.text ⟨1, p, n, cp, ex5.map (tkOf 0)⟩ = [32, 32, 110, 117, 108, 108, 59] := by
    unfold LineR.text lineL
    rw [joinL_C]; rfl
  have hs : LineR.short ⟨1, p, n, cp, ex5.map (tkOf 0)⟩ = true := by unfold LineR.short; rw [ht]; rfl
  have hv : LineR.valid ⟨1, p, n, cp, ex5.map (tkOf 0)⟩ = true := by unfold LineR.valid; rw [all_C]; rfl
  unfold linesS linesE
  simp only [List.all_cons, List.all_nil, hs, hv, linesT, ht]
  exact ⟨by rfl, by rfl⟩

end Go.Proofs.YtalbcgbfefgjfaaDoor
