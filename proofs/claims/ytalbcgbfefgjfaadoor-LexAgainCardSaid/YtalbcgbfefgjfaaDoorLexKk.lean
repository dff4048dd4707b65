
/-
  THE RESERVED WORDS: lex.Key.
-/
import Derived.Test.YtalbcgbfefgjfaaDoorLexK
namespace Go.Proofs.YtalbcgbfefgjfaaDoor
open Go Go.RowKit

set_option maxRecDepth 100000 in
set_option maxHeartbeats 8000000 in
theorem key_no (s : ByteArray) (w : World) (h : keyB s = false) : Calls Tryd.prog 15 #[.string s] w fun e w' => e = .returned (.bool false) ∧ w = w' := by
  have hn : ∀ l ∈ keyL, (s.toList == l) = false := fun l hl => by
    refine beq_eq_false_iff_ne.2 fun e => ?_
    simp only [keyB, List.contains_eq_mem, decide_eq_false_iff_not] at h
    exact h (e ▸ hl)

  have n0 := hn [97, 98, 111, 114, 116] (by decide)
  have n1 := hn [97, 98, 115] (by decide)
  have n2 := hn [97, 99, 99, 101, 112, 116] (by decide)
  have n3 := hn [97, 99, 99, 101, 115, 115] (by decide)
  have n4 := hn [97, 108, 105, 97, 115, 101, 100] (by decide)
  have n5 := hn [97, 108, 108] (by decide)
  have n6 := hn [97, 110, 100] (by decide)
  have n7 := hn [97, 114, 114, 97, 121] (by decide)
  have n8 := hn [98, 101, 103, 105, 110] (by decide)
  have n9 := hn [98, 111, 100, 121] (by decide)
  have n10 := hn [99, 97, 115, 101] (by decide)
  have n11 := hn [99, 111, 110, 115, 116, 97, 110, 116] (by decide)
  have n12 := hn [100, 101, 99, 108, 97, 114, 101] (by decide)
  have n13 := hn [100, 101, 108, 97, 121] (by decide)
  have n14 := hn [100, 111] (by decide)
  have n15 := hn [101, 108, 115, 101] (by decide)
  have n16 := hn [101, 108, 115, 105, 102] (by decide)
  have n17 := hn [101, 110, 100] (by decide)
  have n18 := hn [101, 110, 116, 114, 121] (by decide)
  have n19 := hn [101, 120, 99, 101, 112, 116, 105, 111, 110] (by decide)
  have n20 := hn [101, 120, 105, 116] (by decide)
  have n21 := hn [102, 111, 114] (by decide)
  have n22 := hn [102, 117, 110, 99, 116, 105, 111, 110] (by decide)
  have n23 := hn [103, 101, 110, 101, 114, 105, 99] (by decide)
  have n24 := hn [105, 102] (by decide)
  have n25 := hn [105, 110] (by decide)
  have n26 := hn [105, 115] (by decide)
  have n27 := hn [108, 105, 109, 105, 116, 101, 100] (by decide)
  have n28 := hn [108, 111, 111, 112] (by decide)
  have n29 := hn [109, 111, 100] (by decide)
  have n30 := hn [110, 101, 119] (by decide)
  have n31 := hn [110, 111, 116] (by decide)
  have n32 := hn [110, 117, 108, 108] (by decide)
  have n33 := hn [111, 102] (by decide)
  have n34 := hn [111, 114] (by decide)
  have n35 := hn [111, 116, 104, 101, 114, 115] (by decide)
  have n36 := hn [111, 117, 116] (by decide)
  have n37 := hn [112, 97, 99, 107, 97, 103, 101] (by decide)
  have n38 := hn [112, 114, 97, 103, 109, 97] (by decide)
  have n39 := hn [112, 114, 105, 118, 97, 116, 101] (by decide)
  have n40 := hn [112, 114, 111, 99, 101, 100, 117, 114, 101] (by decide)
  have n41 := hn [112, 114, 111, 116, 101, 99, 116, 101, 100] (by decide)
  have n42 := hn [114, 97, 105, 115, 101] (by decide)
  have n43 := hn [114, 97, 110, 103, 101] (by decide)
  have n44 := hn [114, 101, 99, 111, 114, 100] (by decide)
  have n45 := hn [114, 101, 109] (by decide)
  have n46 := hn [114, 101, 110, 97, 109, 101, 115] (by decide)
  have n47 := hn [114, 101, 113, 117, 101, 117, 101] (by decide)
  have n48 := hn [114, 101, 116, 117, 114, 110] (by decide)
  have n49 := hn [114, 101, 118, 101, 114, 115, 101] (by decide)
  have n50 := hn [115, 101, 108, 101, 99, 116] (by decide)
  have n51 := hn [115, 101, 112, 97, 114, 97, 116, 101] (by decide)
  have n52 := hn [115, 117, 98, 116, 121, 112, 101] (by decide)
  have n53 := hn [116, 97, 115, 107] (by decide)
  have n54 := hn [116, 101, 114, 109, 105, 110, 97, 116, 101] (by decide)
  have n55 := hn [116, 104, 101, 110] (by decide)
  have n56 := hn [116, 121, 112, 101] (by decide)
  have n57 := hn [117, 110, 116, 105, 108] (by decide)
  have n58 := hn [117, 115, 101] (by decide)
  have n59 := hn [119, 104, 101, 110] (by decide)
  have n60 := hn [119, 104, 105, 108, 101] (by decide)
  have n61 := hn [119, 105, 116, 104] (by decide)
  have n62 := hn [120, 111, 114] (by decide)
  clear hn h
  go_enter Tryd.func15, Tryd.ntmps15
  go_wp2
  go_returns
  exact ⟨rfl, rfl⟩

set_option maxRecDepth 100000 in
set_option maxHeartbeats 8000000 in
theorem key_yes (s : ByteArray) (w : World) (h : keyB s = true) : Calls Tryd.prog 15 #[.string s] w fun e w' => e = .returned (.bool true) ∧ w = w' := by
  have h : s.toList ∈ keyL := by simpa [keyB] using h
  simp only [keyL, List.mem_cons, List.not_mem_nil, or_false] at h
  rcases h with h | h | h | h | h | h | h | h | h | h | h | h | h | h | h | h | h | h | h | h | h | h | h | h | h | h | h | h | h | h | h | h | h | h | h | h | h | h | h | h | h | h | h | h | h | h | h | h | h | h | h | h | h | h | h | h | h | h | h | h | h | h | h
  all_goals
    go_enter Tryd.func15, Tryd.ntmps15
    go_wp2
    go_returns
    exact ⟨rfl, rfl⟩

theorem key_any (s : ByteArray) (w : World) : Calls Tryd.prog 15 #[.string s] w fun e w' => e = .returned (.bool (keyB s)) ∧ w = w' := by
  cases h : keyB s
  · exact key_no s w h
  · exact key_yes s w h
end Go.Proofs.YtalbcgbfefgjfaaDoor
