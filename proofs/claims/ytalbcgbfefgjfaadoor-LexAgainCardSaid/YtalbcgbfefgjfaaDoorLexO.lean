
/-
  THE FIRST TOKEN OF A TEXT: lex.piece, lex.token.
-/
import Derived.Test.YtalbcgbfefgjfaaDoorLexL
namespace Go.Proofs.YtalbcgbfefgjfaaDoor
open Go Go.RowKit

def pieceN (l : List UInt8) : Nat := if 0 < wordN l then wordN l else if 1 < l.length ∧ symL.contains (l.take 2) = true then 2 else 1

/-- A call hands back a string with these bytes. -/
def GivesStr (w : World) (l : List UInt8) (e : Ending) (w' : World) : Prop := ∃ p : ByteArray, e = .returned (.string p) ∧ p.toList = l ∧ Below w.heap.size w w'

theorem toList_extract (s : ByteArray) (a b : Nat) : (s.extract a b).toList = (s.toList.drop a).take (b - a) := by
  rw [ByteArray.toList_eq, ByteArray.toList_eq, ByteArray.data_extract, Array.toList_extract]
theorem toList_front (s : ByteArray) (n : Nat) : (s.extract 0 n).toList = s.toList.take n := by
  rw [toList_extract]; simp

theorem piece_any (s : ByteArray) (w : World) (hs : s.size ≤ 9223372036854775807) (h1 : 1 ≤ s.size) : Calls Tryd.prog 74 #[.string s] w (GivesStr w (s.toList.take (pieceN s.toList))) := by
  have hle := wordN_le s.toList
  rw [length_toList] at hle
  obtain ⟨n, hn⟩ : ∃ n, wordN s.toList = n := ⟨_, rfl⟩
  have HN := Lib.hid hn
  rw [hn] at hle
  clear hn
  by_cases hz : 0 < n
  · have HP : Hid (pieceN s.toList = n) := by
      show _ = _
      unfold pieceN
      rw [HN.out, if_pos hz]
    go_enter Tryd.func74, Tryd.ntmps74
    go_wp2_with (go_at_call 43; refine (word_any _ _ hs).mono ?_; rw [HN.out]; rintro e w1 ⟨rfl, hb⟩)
    go_returns
    exact ⟨_, rfl, by rw [HP.out]; exact toList_front s n, hb⟩
  · obtain rfl : n = 0 := by omega
    have hlen := length_toList s
    by_cases h2 : 1 < s.size
    · have hsz2 : (2 : Nat) ≤ s.size := by omega
      cases hy : symB (s.extract 0 2)
      · have HP : Hid (pieceN s.toList = 1) := by
          show _ = _
          unfold pieceN
          unfold symB at hy
          rw [toList_front] at hy
          rw [HN.out, if_neg (by omega), hy, if_neg (by simp)]
        clear hlen
        go_enter Tryd.func74, Tryd.ntmps74
        go_wp2_with (first | (go_at_call 43; refine (word_any _ _ hs).mono ?_; rw [HN.out]; rintro e w1 ⟨rfl, hb⟩) | (go_at_call 17; refine (symbol_any _ _).mono ?_; rw [hy]; rintro e w2 ⟨rfl, rfl⟩))
        go_returns
        exact ⟨_, rfl, by rw [HP.out]; exact toList_front s 1, hb⟩
      · have HP : Hid (pieceN s.toList = 2) := by
          show _ = _
          unfold pieceN
          unfold symB at hy
          rw [toList_front] at hy
          rw [HN.out, if_neg (by omega), hy, if_pos ⟨by omega, rfl⟩]
        clear hlen
        go_enter Tryd.func74, Tryd.ntmps74
        go_wp2_with (first | (go_at_call 43; refine (word_any _ _ hs).mono ?_; rw [HN.out]; rintro e w1 ⟨rfl, hb⟩) | (go_at_call 17; refine (symbol_any _ _).mono ?_; rw [hy]; rintro e w2 ⟨rfl, rfl⟩))
        go_returns
        exact ⟨_, rfl, by rw [HP.out]; exact toList_front s 2, hb⟩
    · have HP : Hid (pieceN s.toList = 1) := by
        show _ = _
        unfold pieceN
        rw [HN.out, if_neg (by omega), if_neg (by omega)]
      clear hlen
      go_enter Tryd.func74, Tryd.ntmps74
      go_wp2_with (first | (go_at_call 43; refine (word_any _ _ hs).mono ?_; rw [HN.out]; rintro e w1 ⟨rfl, hb⟩))
      go_returns
      exact ⟨_, rfl, by rw [HP.out]; exact toList_front s 1, hb⟩

/-- The token that a string is: its kind, its text, its number; and whether it is one. -/
def tokK (s : ByteArray) : Int := if nameB s.toList = true then 1 else if keyB s = true then 2 else if symB s = true then 4 else if litB s.toList = true then 3 else 0
def tokT (s : ByteArray) : ByteArray := if nameB s.toList = true ∨ keyB s = true ∨ symB s = true then s else ⟨#[]⟩
def tokN (s : ByteArray) : Int := if tokK s = 3 then decN s.toList else 0
def tokB (s : ByteArray) : Bool := !(tokK s == 0)
def tokV (s : ByteArray) : Value := .tuple #[.agg #[.int .u8 (tokK s), .int .i64 0, .string (tokT s), .int .i64 (tokN s)], .bool (tokB s)]

/-- A variable of four cells, of the call's own. -/
structure Var4 (w W : World) (g : Nat) (a b c d : Value) : Prop where
  far : w.heap.size ≤ g
  lt : g < W.heap.size
  c0 : W.cell? ⟨g, 0, none⟩ = some a
  c1 : W.cell? ⟨g, 1, none⟩ = some b
  c2 : W.cell? ⟨g, 2, none⟩ = some c
  c3 : W.cell? ⟨g, 3, none⟩ = some d
  f0 : W.frozen? ⟨g, 0, none⟩ = false
  f1 : W.frozen? ⟨g, 1, none⟩ = false
  f2 : W.frozen? ⟨g, 2, none⟩ = false
  f3 : W.frozen? ⟨g, 3, none⟩ = false
theorem keepA {W w1 : World} {p : Addr} {v : Value} (hb : Below W.heap.size W w1) (h : W.cell? p = some v) : w1.cell? p = some v := by
  rw [hb.cell (World.block_lt_of_cell? W p h)]; exact h
theorem Var4.below {w W w1 : World} {g : Nat} {a b c d : Value} (h : Var4 w W g a b c d) (hb : Below W.heap.size W w1) : Var4 w w1 g a b c d :=
  ⟨h.far, by have := hb.size; have := h.lt; omega, keepA hb h.c0, keepA hb h.c1, keepA hb h.c2, keepA hb h.c3, (hb.frozen h.lt).trans h.f0, (hb.frozen h.lt).trans h.f1, (hb.frozen h.lt).trans h.f2, (hb.frozen h.lt).trans h.f3⟩
theorem Var4.made {w W : World} (h : w.heap.size ≤ W.heap.size) (a b c d : Value) : Var4 w (W.alloc (.cells #[a, b, c, d] 27)) W.heap.size a b c d :=
  ⟨h, by simp, by go_cell, by go_cell, by go_cell, by go_cell, by go_cell, by go_cell, by go_cell, by go_cell⟩
theorem below4 {w W : World} {g : Nat} (h : Below w.heap.size w W) (hg : w.heap.size ≤ g) (a b c d : Value) : Below w.heap.size w ((((W.setCell ⟨g, 0, none⟩ a).setCell ⟨g, 1, none⟩ b).setCell ⟨g, 2, none⟩ c).setCell ⟨g, 3, none⟩ d) :=
  (((h.setCell hg _).setCell hg _).setCell hg _).setCell hg _

theorem token_name (s : ByteArray) (w : World) (hs : s.size ≤ 9223372036854775807) (h1 : nameB s.toList = true) : Calls Tryd.prog 75 #[.string s] w (Gives w (.tuple #[.agg #[.int .u8 1, .int .i64 0, .string s, .int .i64 0], .bool true])) := by
  have V0 : Hid (Var4 w (w.alloc (.cells #[.int .u8 0, .int .i64 0, .string ⟨#[]⟩, .int .i64 0] 27)) w.heap.size (.int .u8 0) (.int .i64 0) (.string ⟨#[]⟩) (.int .i64 0)) := Var4.made (Nat.le_refl _) _ _ _ _
  go_enter Tryd.func75, Tryd.ntmps75
  go_wp2_with (first
    | (go_at_call 13; refine (name_any _ _ hs).mono ?_; rw [h1]; rintro e w1 ⟨rfl, hb⟩; have V1 := Lib.hid (V0.out.below hb); have B1 : Hid (Below w.heap.size w w1) := after (by (repeat' (first | (with_reducible exact Below.refl _ _) | (with_reducible assumption) | (with_reducible refine boxed ?_ _) | (with_reducible refine Below.drew ?_) | (with_reducible refine after ?_ (by assumption))))) hb; obtain ⟨_, _, k0, k1, k2, k3, f0, f1, f2, f3⟩ := V1.out; clear hb))
  refine bodyPost_ret (v := .tuple #[.agg #[.int .u8 1, .int .i64 0, .string s, .int .i64 0], .bool true]) (by simp [results, Tryd.results75, go_sem, *]) rfl ⟨rfl, ?_⟩
  exact below4 B1.out (Nat.le_refl _) _ _ _ _

theorem token_key (s : ByteArray) (w : World) (hs : s.size ≤ 9223372036854775807) (h1 : nameB s.toList = false) (h2 : keyB s = true) : Calls Tryd.prog 75 #[.string s] w (Gives w (.tuple #[.agg #[.int .u8 2, .int .i64 0, .string s, .int .i64 0], .bool true])) := by
  have V0 : Hid (Var4 w (w.alloc (.cells #[.int .u8 0, .int .i64 0, .string ⟨#[]⟩, .int .i64 0] 27)) w.heap.size (.int .u8 0) (.int .i64 0) (.string ⟨#[]⟩) (.int .i64 0)) := Var4.made (Nat.le_refl _) _ _ _ _
  go_enter Tryd.func75, Tryd.ntmps75
  go_wp2_with (first
    | (go_at_call 13; refine (name_any _ _ hs).mono ?_; rw [h1]; rintro e w1 ⟨rfl, hb⟩; have V1 := Lib.hid (V0.out.below hb); have B1 : Hid (Below w.heap.size w w1) := after (by (repeat' (first | (with_reducible exact Below.refl _ _) | (with_reducible assumption) | (with_reducible refine boxed ?_ _) | (with_reducible refine Below.drew ?_) | (with_reducible refine after ?_ (by assumption))))) hb; obtain ⟨_, _, k0, k1, k2, k3, f0, f1, f2, f3⟩ := V1.out; clear hb)
    | (go_at_call 15; refine (key_any _ _).mono ?_; rw [h2]; rintro e w2 ⟨rfl, rfl⟩))
  refine bodyPost_ret (v := .tuple #[.agg #[.int .u8 2, .int .i64 0, .string s, .int .i64 0], .bool true]) (by simp [results, Tryd.results75, go_sem, *]) rfl ⟨rfl, ?_⟩
  exact below4 B1.out (Nat.le_refl _) _ _ _ _

theorem token_sym (s : ByteArray) (w : World) (hs : s.size ≤ 9223372036854775807) (h1 : nameB s.toList = false) (h2 : keyB s = false) (h3 : symB s = true) : Calls Tryd.prog 75 #[.string s] w (Gives w (.tuple #[.agg #[.int .u8 4, .int .i64 0, .string s, .int .i64 0], .bool true])) := by
  have V0 : Hid (Var4 w (w.alloc (.cells #[.int .u8 0, .int .i64 0, .string ⟨#[]⟩, .int .i64 0] 27)) w.heap.size (.int .u8 0) (.int .i64 0) (.string ⟨#[]⟩) (.int .i64 0)) := Var4.made (Nat.le_refl _) _ _ _ _
  go_enter Tryd.func75, Tryd.ntmps75
  go_wp2_with (first
    | (go_at_call 13; refine (name_any _ _ hs).mono ?_; rw [h1]; rintro e w1 ⟨rfl, hb⟩; have V1 := Lib.hid (V0.out.below hb); have B1 : Hid (Below w.heap.size w w1) := after (by (repeat' (first | (with_reducible exact Below.refl _ _) | (with_reducible assumption) | (with_reducible refine boxed ?_ _) | (with_reducible refine Below.drew ?_) | (with_reducible refine after ?_ (by assumption))))) hb; obtain ⟨_, _, k0, k1, k2, k3, f0, f1, f2, f3⟩ := V1.out; clear hb)
    | (go_at_call 15; refine (key_any _ _).mono ?_; rw [h2]; rintro e w2 ⟨rfl, rfl⟩)
    | (go_at_call 17; refine (symbol_any _ _).mono ?_; rw [h3]; rintro e w2 ⟨rfl, rfl⟩))
  refine bodyPost_ret (v := .tuple #[.agg #[.int .u8 4, .int .i64 0, .string s, .int .i64 0], .bool true]) (by simp [results, Tryd.results75, go_sem, *]) rfl ⟨rfl, ?_⟩
  exact below4 B1.out (Nat.le_refl _) _ _ _ _

theorem token_int (s : ByteArray) (w : World) (hs : s.size ≤ 9223372036854775807) (h1 : nameB s.toList = false) (h2 : keyB s = false) (h3 : symB s = false) (h4 : litB s.toList = true) : Calls Tryd.prog 75 #[.string s] w (Gives w (.tuple #[.agg #[.int .u8 3, .int .i64 0, .string ⟨#[]⟩, .int .i64 (decN s.toList)], .bool true])) := by
  have V0 : Hid (Var4 w (w.alloc (.cells #[.int .u8 0, .int .i64 0, .string ⟨#[]⟩, .int .i64 0] 27)) w.heap.size (.int .u8 0) (.int .i64 0) (.string ⟨#[]⟩) (.int .i64 0)) := Var4.made (Nat.le_refl _) _ _ _ _
  go_enter Tryd.func75, Tryd.ntmps75
  go_wp2_with (first
    | (go_at_call 13; refine (name_any _ _ hs).mono ?_; rw [h1]; rintro e w1 ⟨rfl, hb⟩; have V1 := Lib.hid (V0.out.below hb); have B1 : Hid (Below w.heap.size w w1) := after (by (repeat' (first | (with_reducible exact Below.refl _ _) | (with_reducible assumption) | (with_reducible refine boxed ?_ _) | (with_reducible refine Below.drew ?_) | (with_reducible refine after ?_ (by assumption))))) hb; obtain ⟨_, _, k0, k1, k2, k3, f0, f1, f2, f3⟩ := V1.out; clear hb)
    | (go_at_call 15; refine (key_any _ _).mono ?_; rw [h2]; rintro e w2 ⟨rfl, rfl⟩)
    | (go_at_call 17; refine (symbol_any _ _).mono ?_; rw [h3]; rintro e w2 ⟨rfl, rfl⟩)
    | (go_at_call 93; refine (literal_any _ _).mono ?_; rw [h4]; rintro e w2 ⟨rfl, hb⟩; have V2 := Lib.hid (V1.out.below hb); have B2 : Hid (Below w.heap.size w w2) := after B1.out hb; clear k0 k1 k2 k3 f0 f1 f2 f3 hb; obtain ⟨_, _, k0, k1, k2, k3, f0, f1, f2, f3⟩ := V2.out))
  refine bodyPost_ret (v := .tuple #[.agg #[.int .u8 3, .int .i64 0, .string ⟨#[]⟩, .int .i64 (decN s.toList)], .bool true]) (by simp [results, Tryd.results75, go_sem, *]) rfl ⟨rfl, ?_⟩
  exact below4 B2.out (Nat.le_refl _) _ _ _ _

theorem token_no (s : ByteArray) (w : World) (hs : s.size ≤ 9223372036854775807) (h1 : nameB s.toList = false) (h2 : keyB s = false) (h3 : symB s = false) (h4 : litB s.toList = false) : Calls Tryd.prog 75 #[.string s] w (Gives w (.tuple #[.agg #[.int .u8 0, .int .i64 0, .string ⟨#[]⟩, .int .i64 0], .bool false])) := by
  have V0 : Hid (Var4 w (w.alloc (.cells #[.int .u8 0, .int .i64 0, .string ⟨#[]⟩, .int .i64 0] 27)) w.heap.size (.int .u8 0) (.int .i64 0) (.string ⟨#[]⟩) (.int .i64 0)) := Var4.made (Nat.le_refl _) _ _ _ _
  go_enter Tryd.func75, Tryd.ntmps75
  go_wp2_with (first
    | (go_at_call 13; refine (name_any _ _ hs).mono ?_; rw [h1]; rintro e w1 ⟨rfl, hb⟩; have V1 := Lib.hid (V0.out.below hb); have B1 : Hid (Below w.heap.size w w1) := after (by (repeat' (first | (with_reducible exact Below.refl _ _) | (with_reducible assumption) | (with_reducible refine boxed ?_ _) | (with_reducible refine Below.drew ?_) | (with_reducible refine after ?_ (by assumption))))) hb; obtain ⟨_, _, k0, k1, k2, k3, f0, f1, f2, f3⟩ := V1.out; clear hb)
    | (go_at_call 15; refine (key_any _ _).mono ?_; rw [h2]; rintro e w2 ⟨rfl, rfl⟩)
    | (go_at_call 17; refine (symbol_any _ _).mono ?_; rw [h3]; rintro e w2 ⟨rfl, rfl⟩)
    | (go_at_call 93; refine (literal_any _ _).mono ?_; rw [h4]; rintro e w2 ⟨rfl, hb⟩; have V2 := Lib.hid (V1.out.below hb); have B2 : Hid (Below w.heap.size w w2) := after B1.out hb; clear k0 k1 k2 k3 f0 f1 f2 f3 hb; obtain ⟨_, _, k0, k1, k2, k3, f0, f1, f2, f3⟩ := V2.out))
  refine bodyPost_ret (v := .tuple #[.agg #[.int .u8 0, .int .i64 0, .string ⟨#[]⟩, .int .i64 0], .bool false]) (by simp [results, Tryd.results75, go_sem, *]) rfl ⟨rfl, ?_⟩
  exact below4 B2.out (Nat.le_refl _) _ _ _ _

theorem token_any (s : ByteArray) (w : World) (hs : s.size ≤ 9223372036854775807) : Calls Tryd.prog 75 #[.string s] w (Gives w (tokV s)) := by
  cases h1 : nameB s.toList
  · cases h2 : keyB s
    · cases h3 : symB s
      · cases h4 : litB s.toList
        · rw [show tokV s = .tuple #[.agg #[.int .u8 0, .int .i64 0, .string ⟨#[]⟩, .int .i64 0], .bool false] by simp [tokV, tokK, tokT, tokN, tokB, h1, h2, h3, h4]]
          exact token_no s w hs h1 h2 h3 h4
        · rw [show tokV s = .tuple #[.agg #[.int .u8 3, .int .i64 0, .string ⟨#[]⟩, .int .i64 (decN s.toList)], .bool true] by simp [tokV, tokK, tokT, tokN, tokB, h1, h2, h3, h4]]
          exact token_int s w hs h1 h2 h3 h4
      · rw [show tokV s = .tuple #[.agg #[.int .u8 4, .int .i64 0, .string s, .int .i64 0], .bool true] by simp [tokV, tokK, tokT, tokN, tokB, h1, h2, h3]]
        exact token_sym s w hs h1 h2 h3
    · rw [show tokV s = .tuple #[.agg #[.int .u8 2, .int .i64 0, .string s, .int .i64 0], .bool true] by simp [tokV, tokK, tokT, tokN, tokB, h1, h2]]
      exact token_key s w hs h1 h2
  · rw [show tokV s = .tuple #[.agg #[.int .u8 1, .int .i64 0, .string s, .int .i64 0], .bool true] by simp [tokV, tokK, tokT, tokN, tokB, h1]]
    exact token_name s w hs h1

end Go.Proofs.YtalbcgbfefgjfaaDoor
