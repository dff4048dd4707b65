
/-
  WHAT THE LISTED VARIABLES OF GO's LIBRARY GIVE; a world in which they hold what their text lays.
-/
import Derived.Test.YtalbcgbfefgjfaaDoorRows
import Derived.Test.YtalbcgbfefgjfaaDoorLexAk
import Derived.Stop.LaidErr
import Derived.Lib.LaidTab
import Derived.Deep.DeepLaidRun
import Derived.PinnedBridge
namespace Go.Proofs.YtalbcgbfefgjfaaDoor
open Go Go.RowKit

theorem pow_data : (Rows.laid_internal_strconv_uint64pow10 : DataW Unit) = Lib.tabData .u64 Lib.pow10Tab := by kernel_rfl
theorem lib_of {W : World} (h : laidMetH Tryd.prog Rows.lexWordsRow.laid W) (hs : W.ShapedOpen Tryd.prog) : LibOk W := by
  have h' : laidMet Tryd.prog Rows.lexWordsRow.laid W := h
  have h2 : laidMet Tryd.prog (("internal/strconv.uint64pow10", Rows.laid_internal_strconv_uint64pow10) :: [("unicode/utf8.acceptRanges", Rows.laid_unicode_utf8_acceptRanges), ("unicode/utf8.first", Rows.laid_unicode_utf8_first)]) W := laidMet.tail (laidMet.tail h')
  rw [pow_data] at h2
  exact ⟨Tryd.laysM146.s1_3 W hs, Lib.tabIs_of_head (g := 1) (t := 121) (e := 101) (n := 20) (by kernel_rfl) (by kernel_rfl) Tryd.underlying121 Tryd.underlying101 (by kernel_rfl) (by kernel_rfl) h2⟩

/-- Lay cells into a block. -/
def layCells (cs : Array Value) : Obj → Obj
  | .cells _ t frozen => .cells cs t frozen
  | o => o
def intCells (k : IntKind) (zs : List Int) : Array Value := (zs.map (Value.int k)).toArray
def bits32 : List Int := [0, 1, 28, 2, 29, 14, 24, 3, 30, 22, 20, 15, 25, 17, 4, 8, 31, 27, 13, 23, 21, 19, 16, 7, 26, 12, 18, 6, 11, 5, 10, 9]
def bits64 : List Int := [0, 1, 56, 2, 57, 49, 28, 3, 61, 58, 42, 50, 38, 29, 17, 4, 62, 47, 59, 36, 45, 43, 51, 22, 53, 39, 33, 30, 24, 18, 12, 5, 63, 55, 48, 27, 60, 41, 37, 16, 46, 35, 44, 21, 52, 32, 23, 11, 54, 26, 40, 15, 34, 20, 31, 10, 25, 14, 19, 9, 13, 8, 7, 6]
def accepts : List Int := [128, 191, 160, 191, 128, 159, 144, 191, 128, 143] ++ List.replicate 22 0
noncomputable def laidWorld (os : Os) : World :=
  { World.holding Tryd.prog os ⟨#[], #[], []⟩ with heap := ((((((World.holding Tryd.prog os ⟨#[], #[], []⟩).heap.modify 1 (layCells (intCells .u64 Lib.pow10Tab))).modify 2 (layCells (intCells .u8 Lib.firstTab))).modify 3 (layCells (intCells .u8 accepts))).modify 4 (layCells (intCells .u8 bits32))).modify 5 (layCells (intCells .u8 bits64))) }

theorem test_laid (os : Os) : laidMet Tryd.prog Rows.lexWordsRow.laid ((laidWorld os).forCall (fun _ _ => 0) ⟨#[], #[.string ⟨#[]⟩], []⟩).memory :=
  laidMet_of_run3 8 (by kernel_rfl) (by kernel_rfl) (by kernel_rfl)

theorem own : ownKnob Tryd.prog.godebug = none := by kernel_rfl

end Go.Proofs.YtalbcgbfefgjfaaDoor
