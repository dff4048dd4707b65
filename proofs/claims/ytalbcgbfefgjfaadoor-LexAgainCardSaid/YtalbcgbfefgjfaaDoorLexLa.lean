
/-
  ROWS OF LINES, each with a row of tokens of its own: what the laws LexLines and LexAgain keep.
-/
import Derived.Test.YtalbcgbfefgjfaaDoorLexMa
import Derived.Test.YtalbcgbfefgjfaaDoorLexKn
namespace Go.Proofs.YtalbcgbfefgjfaaDoor
open Go Go.RowKit

def zval (z : LineR) : Value := .slice z.p z.n z.cp
def lineCell (z : LineR) : List Value := [.int .i64 z.d, .slice z.p z.n z.cp]
def lineCells : List LineR → List Value
  | [] => []
  | z :: zs => lineCell z ++ lineCells zs
theorem lineCells_append : ∀ a b : List LineR, lineCells (a ++ b) = lineCells a ++ lineCells b
  | [], _ => rfl
  | z :: a, b => by rw [List.cons_append, lineCells, lineCells, lineCells_append a b, List.append_assoc]
theorem lineCells_length : ∀ zs : List LineR, (lineCells zs).length = zs.length * 2
  | [] => rfl
  | z :: zs => by rw [lineCells, List.length_append, lineCells_length zs]; simp [lineCell]; omega
theorem lineCells_at : ∀ (zs : List LineR) (i : Nat) (z : LineR), zs[i]? = some z → (lineCells zs)[i * 2]? = some (.int .i64 z.d) ∧ (lineCells zs)[i * 2 + 1]? = some (zval z)
  | [], i, z, h => by simp at h
  | y :: zs, 0, z, h => by
    obtain rfl : y = z := by simpa using h
    exact ⟨rfl, rfl⟩
  | y :: zs, i + 1, z, h => by
    have := lineCells_at zs i z (by simpa using h)
    rw [lineCells, show (i + 1) * 2 = (lineCell y).length + i * 2 by simp [lineCell]; omega]
    rw [List.getElem?_append_right (by omega), Nat.add_sub_cancel_left, Nat.add_assoc, List.getElem?_append_right (by omega), Nat.add_sub_cancel_left]
    exact this
/-- One line's slice is another one. -/
theorem lineCells_set : ∀ (zs : List LineR) (i : Nat) (z y : LineR), zs[i]? = some z → y.d = z.d → lineCells (zs.set i y) = (lineCells zs).set (i * 2 + 1) (zval y)
  | [], i, z, y, h, _ => by simp at h
  | x :: zs, 0, z, y, h, hd => by
    obtain rfl : x = z := by simpa using h
    simp [lineCells, lineCell, hd, zval]
  | x :: zs, i + 1, z, y, h, hd => by
    have ih := lineCells_set zs i z y (by simpa using h) hd
    rw [List.set_cons_succ, lineCells, lineCells, ih, show (i + 1) * 2 + 1 = (lineCell x).length + (i * 2 + 1) by simp [lineCell]; omega, List.set_append_right _ _ (by omega), Nat.add_sub_cancel_left]

theorem Apart.symm {u v : Value} (h : Apart u v) : Apart v u := fun g hv hu => h g hu hv
theorem Apart.nil (v : Value) : Apart (.slice none 0 0) v := fun g hg => by simp [Value.ownBlock] at hg

/-- A line's tokens lie in a row of their own. -/
def RowIn (B : Nat) (X : World) (z : LineR) : Prop := X.ownsRow B 27 4 (zval z) z.n (tokCells z.xs)
/-- Each line's tokens lie in a row of their own, apart from two others. -/
def RowsIn (B : Nat) (X : World) (u v : Value) (zs : List LineR) : Prop := ∀ z ∈ zs, RowIn B X z ∧ Apart u (zval z) ∧ Apart v (zval z)
theorem RowsIn.alloc {B : Nat} {X : World} {u v : Value} {zs : List LineR} (h : RowsIn B X u v zs) (o : Obj) : RowsIn B (X.alloc o) u v zs :=
  fun z hz => ⟨(h z hz).1.alloc o, (h z hz).2⟩
theorem RowsIn.below {B : Nat} {X Y : World} {u v : Value} {zs : List LineR} (h : RowsIn B X u v zs) (hb : Below X.heap.size X Y) : RowsIn B Y u v zs :=
  fun z hz => ⟨row_below (h z hz).1 hb, (h z hz).2⟩
theorem RowsIn.swap {B : Nat} {X : World} {u v : Value} {zs : List LineR} (h : RowsIn B X u v zs) : RowsIn B X v u zs :=
  fun z hz => ⟨(h z hz).1, (h z hz).2.2, (h z hz).2.1⟩
theorem RowsIn.grown {B : Nat} {X Y : World} {u u' v : Value} {zs : List LineR} (h : RowsIn B X u v zs) (hg : X.grownBy Y u.ownBlock) (hd : u'.ownBlock = u.ownBlock ∨ u'.ownBlock = some X.heap.size) : RowsIn B Y u' v zs :=
  fun z hz => ⟨(h z hz).1.kept hg (h z hz).2.1.off, (h z hz).2.1.next (h z hz).1 hd, (h z hz).2.2⟩
theorem RowsIn.snoc {B : Nat} {X : World} {u v : Value} {zs : List LineR} {z : LineR} (h : RowsIn B X u v zs) (hz : RowIn B X z) (hu : Apart u (zval z)) (hv : Apart v (zval z)) : RowsIn B X u v (zs ++ [z]) :=
  fun y hy => by
    rcases List.mem_append.1 hy with hy | hy
    · exact h y hy
    · obtain rfl := List.mem_singleton.1 hy
      exact ⟨hz, hu, hv⟩

theorem addr_at (g j : Nat) : (⟨g, 0, none⟩ : Addr).add j = ⟨g, j, none⟩ := by simp [Addr.add]; exact fun h => h.symm
/-- A row of lines is one that can be read. -/
theorem lines_of_row {B : Nat} {X : World} {p : Option Addr} {n cp : Nat} {zs : List LineR} (h : X.ownsRow B 35 2 (.slice p n cp) n (lineCells zs)) (hn : zs.length = n)
    (hz : ∀ z ∈ zs, RowIn B X z ∧ z.xs.length = z.n ∧ z.n ≤ 4611686018427387904 ∧ ∀ x ∈ z.xs, x.t.size ≤ 9223372036854775807) : LinesIn X p n zs := by
  refine ⟨hn, fun i z hi => ?_⟩
  obtain ⟨r1, r2, r3, r4⟩ := hz z (List.mem_of_getElem? hi)
  have hi' := (List.getElem?_eq_some_iff.1 hi).1
  obtain ⟨k, rfl⟩ : ∃ k, n = k + 1 := ⟨n - 1, by omega⟩
  obtain ⟨g, c, hv⟩ := ownsRow_succ h
  cases hv
  obtain ⟨c0, c1⟩ := lineCells_at zs i z hi
  have d0 := h.cells (g := g) rfl _ _ c0
  have d1 := h.cells (g := g) rfl _ _ c1
  rw [addr_at] at d0 d1
  refine ⟨⟨g, 0, none⟩, rfl, ?_⟩
  rw [addr_at]
  exact ⟨d0, d1, toks_of_row r1 r2, fun j x hx => r4 x (List.mem_of_getElem? hx), r3⟩
theorem infoLine : (Tryd.prog.info? 35).map (fun i => (i.zero, i.size, i.bytes)) = some (some (.agg #[.int .i64 0, .slice none 0 0]), 2, 32) := by kernel_rfl
theorem line_box {w : World} {D : Nat} {d : Int} {v : Value} {t : TypeId} {fz : Nat × Nat} (h : w.heap[D]? = some (.cells #[.int .i64 d, v] t fz)) : w.cell? ⟨D, 0, none⟩ = some (.int .i64 d) ∧ w.cell? ⟨D, 1, none⟩ = some v := by
  constructor <;> simp [World.cell?, h]

end Go.Proofs.YtalbcgbfefgjfaaDoor
