
/-
  THE RESERVED WORDS AND THE SYMBOLS: lex.Key, lex.Symbol.
-/
import Derived.Test.YtalbcgbfefgjfaaDoorLexA
namespace Go.Proofs.YtalbcgbfefgjfaaDoor
open Go Go.RowKit

/-- The bytes of a string. -/
def str (l : List UInt8) : ByteArray := ⟨l.toArray⟩
def keyL : List (List UInt8) := [[97, 98, 111, 114, 116],
  [97, 98, 115],
  [97, 99, 99, 101, 112, 116],
  [97, 99, 99, 101, 115, 115],
  [97, 108, 105, 97, 115, 101, 100],
  [97, 108, 108],
  [97, 110, 100],
  [97, 114, 114, 97, 121],
  [98, 101, 103, 105, 110],
  [98, 111, 100, 121],
  [99, 97, 115, 101],
  [99, 111, 110, 115, 116, 97, 110, 116],
  [100, 101, 99, 108, 97, 114, 101],
  [100, 101, 108, 97, 121],
  [100, 111],
  [101, 108, 115, 101],
  [101, 108, 115, 105, 102],
  [101, 110, 100],
  [101, 110, 116, 114, 121],
  [101, 120, 99, 101, 112, 116, 105, 111, 110],
  [101, 120, 105, 116],
  [102, 111, 114],
  [102, 117, 110, 99, 116, 105, 111, 110],
  [103, 101, 110, 101, 114, 105, 99],
  [105, 102],
  [105, 110],
  [105, 115],
  [108, 105, 109, 105, 116, 101, 100],
  [108, 111, 111, 112],
  [109, 111, 100],
  [110, 101, 119],
  [110, 111, 116],
  [110, 117, 108, 108],
  [111, 102],
  [111, 114],
  [111, 116, 104, 101, 114, 115],
  [111, 117, 116],
  [112, 97, 99, 107, 97, 103, 101],
  [112, 114, 97, 103, 109, 97],
  [112, 114, 105, 118, 97, 116, 101],
  [112, 114, 111, 99, 101, 100, 117, 114, 101],
  [112, 114, 111, 116, 101, 99, 116, 101, 100],
  [114, 97, 105, 115, 101],
  [114, 97, 110, 103, 101],
  [114, 101, 99, 111, 114, 100],
  [114, 101, 109],
  [114, 101, 110, 97, 109, 101, 115],
  [114, 101, 113, 117, 101, 117, 101],
  [114, 101, 116, 117, 114, 110],
  [114, 101, 118, 101, 114, 115, 101],
  [115, 101, 108, 101, 99, 116],
  [115, 101, 112, 97, 114, 97, 116, 101],
  [115, 117, 98, 116, 121, 112, 101],
  [116, 97, 115, 107],
  [116, 101, 114, 109, 105, 110, 97, 116, 101],
  [116, 104, 101, 110],
  [116, 121, 112, 101],
  [117, 110, 116, 105, 108],
  [117, 115, 101],
  [119, 104, 101, 110],
  [119, 104, 105, 108, 101],
  [119, 105, 116, 104],
  [120, 111, 114]]
def symL : List (List UInt8) := [[61, 62], [46, 46], [58, 61], [47, 61], [60, 61], [62, 61], [60, 62], [40], [41], [44], [59], [58], [46], [39], [43], [45], [42], [47], [61], [60], [62], [124]]
def keyB (s : ByteArray) : Bool := keyL.contains s.toList
def symB (s : ByteArray) : Bool := symL.contains s.toList

set_option maxRecDepth 100000 in
set_option maxHeartbeats 8000000 in
theorem symbol_no (s : ByteArray) (w : World) (h : symB s = false) : Calls Tryd.prog 17 #[.string s] w fun e w' => e = .returned (.bool false) ∧ w = w' := by
  have hn : ∀ l ∈ symL, (s.toList == l) = false := fun l hl => by
    refine beq_eq_false_iff_ne.2 fun e => ?_
    simp only [symB, List.contains_eq_mem, decide_eq_false_iff_not] at h
    exact h (e ▸ hl)

  have n0 := hn [61, 62] (by decide)
  have n1 := hn [46, 46] (by decide)
  have n2 := hn [58, 61] (by decide)
  have n3 := hn [47, 61] (by decide)
  have n4 := hn [60, 61] (by decide)
  have n5 := hn [62, 61] (by decide)
  have n6 := hn [60, 62] (by decide)
  have n7 := hn [40] (by decide)
  have n8 := hn [41] (by decide)
  have n9 := hn [44] (by decide)
  have n10 := hn [59] (by decide)
  have n11 := hn [58] (by decide)
  have n12 := hn [46] (by decide)
  have n13 := hn [39] (by decide)
  have n14 := hn [43] (by decide)
  have n15 := hn [45] (by decide)
  have n16 := hn [42] (by decide)
  have n17 := hn [47] (by decide)
  have n18 := hn [61] (by decide)
  have n19 := hn [60] (by decide)
  have n20 := hn [62] (by decide)
  have n21 := hn [124] (by decide)
  clear hn h
  go_enter Tryd.func17, Tryd.ntmps17
  go_wp2
  go_returns
  exact ⟨rfl, rfl⟩

set_option maxRecDepth 100000 in
set_option maxHeartbeats 8000000 in
theorem symbol_yes (s : ByteArray) (w : World) (h : symB s = true) : Calls Tryd.prog 17 #[.string s] w fun e w' => e = .returned (.bool true) ∧ w = w' := by
  have h : s.toList ∈ symL := by simpa [symB] using h
  simp only [symL, List.mem_cons, List.not_mem_nil, or_false] at h
  rcases h with h | h | h | h | h | h | h | h | h | h | h | h | h | h | h | h | h | h | h | h | h | h
  all_goals
    go_enter Tryd.func17, Tryd.ntmps17
    go_wp2
    go_returns
    exact ⟨rfl, rfl⟩

theorem symbol_any (s : ByteArray) (w : World) : Calls Tryd.prog 17 #[.string s] w fun e w' => e = .returned (.bool (symB s)) ∧ w = w' := by
  cases h : symB s
  · exact symbol_no s w h
  · exact symbol_yes s w h
end Go.Proofs.YtalbcgbfefgjfaaDoor
