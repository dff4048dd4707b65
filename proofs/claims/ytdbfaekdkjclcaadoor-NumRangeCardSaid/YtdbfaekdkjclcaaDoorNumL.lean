
/-
  WHAT THE ROWS' LIST OF VARIABLES GIVES: the six cells that package num's three variables hold; and a world in which they hold it.
-/
import Derived.Test.YtdbfaekdkjclcaaDoorCards
import Derived.Test.YtdbfaekdkjclcaaDoorTie
import Derived.Test.YtdbfaekdkjclcaaDoorNumZ
import Derived.ProofKit
import Derived.OpenShut
import Derived.Deep.DeepHandedRow
import Derived.Lib.SmallJoins
namespace Go.Proofs.YtdbfaekdkjclcaaDoor
open Go Go.RowKit Go.ChangeShapes Go.WideShapes Go.ChangeAt

theorem own : ownKnob Tryd.prog.godebug = none := by kernel_rfl
theorem gNone : Tryd.prog.globalNamed "ceiling/num.none" = some 0 := by kernel_rfl
theorem gFull : Tryd.prog.globalNamed "ceiling/num.full" = some 2 := by kernel_rfl
theorem gTruths : Tryd.prog.globalNamed "ceiling/num.truths" = some 1 := by kernel_rfl
theorem tNone : (Tryd.prog.globals[0]?).map (·.type) = some 24 := by kernel_rfl
theorem tFull : (Tryd.prog.globals[2]?).map (·.type) = some 24 := by kernel_rfl
theorem tTruths : (Tryd.prog.globals[1]?).map (·.type) = some 24 := by kernel_rfl
theorem cellsIval : Tryd.prog.cellsOf 24 = 2 := by kernel_rfl
theorem cells64 : Tryd.prog.cellsOf 2 = 1 := by kernel_rfl

/-- A variable that reads as an interval holds two cells. -/
theorem pair_of {W : World} {g : Nat} {name : String} {cs : Array Value} {fuel : Nat} {lo hi : Int} {p : List MemPlace} (hg : Tryd.prog.globalNamed name = some g) (hv : W.var? Tryd.prog name = some cs)
    {enc : TypeId × Value → Unit} {base : Nat} {sp : Nat → Bool} {held : Bool} (hd : DataW.trod enc Tryd.prog W base sp held fuel 24 cs.toList = some (.agg [.lit (.int .i64 lo), .lit (.int .i64 hi)], p)) :
    W.cell? ⟨g, 0, none⟩ = some (.int .i64 lo) ∧ W.cell? ⟨g, 1, none⟩ = some (.int .i64 hi) := by
  have c0 := World.var?_cell hg hv 0
  have c1 := World.var?_cell hg hv 1
  obtain ⟨y0, y1, n, hx, hlen, h0, h1⟩ := trod_struct2 Tryd.underlying24 hd
  obtain ⟨l⟩ := cs
  rw [cellsIval] at hlen
  match l, hlen with
  | [u, v], _ =>
    obtain ⟨a, e0, rfl, _⟩ := DataW.trod_int Tryd.underlying2 h0
    obtain ⟨b, e1, rfl, _⟩ := DataW.trod_int Tryd.underlying2 h1
    simp [cells64] at e0 e1
    subst e0 e1
    simp at hx
    obtain ⟨⟨rfl, rfl⟩, _⟩ := hx
    exact ⟨by simpa using c0, by simpa using c1⟩

def list3 : List (String × DataW Unit) := [("ceiling/num.none", Rows.laid_ceiling_num_none), ("ceiling/num.full", Rows.laid_ceiling_num_full), ("ceiling/num.truths", Rows.laid_ceiling_num_truths)]

theorem laid_of {W : World} (h : laidMetH Tryd.prog list3 W) : Laid W := by
  have h' : laidMet Tryd.prog list3 W := h
  obtain ⟨ps, ⟨g0, t0, cs0, f0, p0, q0, hg0, ht0, hv0, hd0, ⟨g1, t1, cs1, f1, p1, q1, hg1, ht1, hv1, hd1, ⟨g2, t2, cs2, f2, p2, q2, hg2, ht2, hv2, hd2, _, _⟩, _⟩, _⟩, _⟩ := h'
  obtain rfl := Option.some.inj (gNone.symm.trans hg0)
  obtain rfl := Option.some.inj (gFull.symm.trans hg1)
  obtain rfl := Option.some.inj (gTruths.symm.trans hg2)
  obtain rfl := Option.some.inj (tNone.symm.trans ht0)
  obtain rfl := Option.some.inj (tFull.symm.trans ht1)
  obtain rfl := Option.some.inj (tTruths.symm.trans ht2)
  obtain ⟨n0, n1⟩ := pair_of gNone hv0 hd0
  obtain ⟨u0, u1⟩ := pair_of gFull hv1 hd1
  obtain ⟨v0, v1⟩ := pair_of gTruths hv2 hd2
  refine ⟨?_, n0, n1, u0, u1, v0, v1⟩
  have a0 := block_lt_of_cell n0
  have a1 := block_lt_of_cell u0
  have a2 := block_lt_of_cell v0
  simp at a0 a1 a2
  omega

/-- Lay two integers into a block. -/
def layTwo (u v : Int) : Obj → Obj
  | .cells _ t frozen => .cells #[.int .i64 u, .int .i64 v] t frozen
  | o => o

/-- A world in which the three variables hold what their initialisers lay. -/
noncomputable def laidWorld (os : Os) : World :=
  { World.holding Tryd.prog os ⟨#[], #[], []⟩ with heap := (((World.holding Tryd.prog os ⟨#[], #[], []⟩).heap.modify 0 (layTwo 1 0)).modify 2 (layTwo (-9223372036854775808) 9223372036854775807)).modify 1 (layTwo 0 1) }

end Go.Proofs.YtdbfaekdkjclcaaDoor
