/-
  NARROWER THAN 'FOR EVERY INPUT', by the rows' own cells (each row's printed sentence says how): NumRange: laid · NumJoins: laid · NumEnds: laid · NumExact: laid.
  DERIVED. THE GIVEN ROWS OF THIS SEAT. 4 by the template 'for every input the law returns true; each argument reads behind the call as it read before'; 0 by the template 'total and deterministic' (their statements: YtdbfaekdkjclcaaDoorTotals.lean).
  GIVEN WITH THE SEED: the statements are not yours to turn. If you find one false, say at which input.
  Laid BY PROGRAM, IN A SANDBOX (cutbox-rows.mjs): the forced cells as the released guide's own fill.sh prints them over the translation a82d41bd4c496186… (all of the seat's roots in one cut). By AI agents, Wed Nov 11 2026. No macro, syntax, notation, axiom, sorry.
-/
import Derived.Test.YtdbfaekdkjclcaaDoorChecked
import GoSem.Claim
import GoSem.ClaimJoined
import GoSem.ClaimMapViews
import Derived.JoinedTies
import Derived.KernelRfl
namespace Go.Proofs.YtdbfaekdkjclcaaDoor
/- THE CELL 'sum', in the pinned program and in every row, IS THE sha256 OF THE DUMP (.gsa) THAT YtdbfaekdkjclcaaDoorProg.lean LOADS. Nothing in Lean hashes anything: it is a label: what it is worth is what the hold of that sum in a sandbox is worth. -/
noncomputable def Tryd.pinned : Pinned := { name := "ytdbfaekdkjclcaadoor", sum := "a82d41bd4c4961869140dbd38994f26a73120e82254e49778f936944304a21a8", checked := Tryd.checked }
namespace Rows
def none {H : Type} : Left H := { results := [], args := [] }

/- WHAT THE LISTED PACKAGE-LEVEL VARIABLES READ AS WHEN THE CALL BEGINS. Each datum BY PROGRAM (the guide's laid-datum.mjs) off the statement by which the dump's own 'gosem.cut.vars' lays the variable. In a bare row this is a premise. The card (YtdbfaekdkjclcaaDoorCards.lean) ties it to the program's text. -/
def laid_ceiling_num_none {H : Type} : DataW H := .agg [.lit (.int .i64 1), .lit (.int .i64 0)]
def laid_ceiling_num_full {H : Type} : DataW H := .agg [.lit (.int .i64 (-9223372036854775808)), .lit (.int .i64 9223372036854775807)]
def laid_ceiling_num_truths {H : Type} : DataW H := .agg [.lit (.int .i64 0), .lit (.int .i64 1)]

/-- 'ceilinglaw01.NumRange': WHATEVER THE INPUT: true; the input reads as it did. -/
def numRangeSpec : ChangeSpec := { name := "numRange", fn := fun _ => fun
  | [d1, d2, d3] => { results := [.lit (.bool true)], args := [d1, d2, d3] }
  | _ => none }
def numRangeRow : OpenClaim := { program := "ytdbfaekdkjclcaadoor", sum := "a82d41bd4c4961869140dbd38994f26a73120e82254e49778f936944304a21a8", func := "ceiling/ceilinglaw01.NumRange", spec := "numRange", unfollowed := true, recurses := true, named := ["ceiling/num.none", "ceiling/num.truths", "ceiling/num.full"], apart := false, laid := [("ceiling/num.none", laid_ceiling_num_none), ("ceiling/num.full", laid_ceiling_num_full), ("ceiling/num.truths", laid_ceiling_num_truths)] }
def NumRangeSaid : Prop := numRangeRow.holds Tryd.pinned (OpenSpec.ofChange numRangeSpec)

/-- ITS FALSE NEIGHBOUR: 'it returns false'. Refute it at one input. -/
def numRangeWrong : ChangeSpec := { name := "numRange", fn := fun _ => fun
  | [d1, d2, d3] => { results := [.lit (.bool false)], args := [d1, d2, d3] }
  | _ => none }
def NumRangeWrongFalsely : Prop := numRangeRow.holds Tryd.pinned (OpenSpec.ofChange numRangeWrong)

/-- 'ceilinglaw01.NumJoins': WHATEVER THE INPUT: true; the input reads as it did. -/
def numJoinsSpec : ChangeSpec := { name := "numJoins", fn := fun _ => fun
  | [d1, d2, d3, d4] => { results := [.lit (.bool true)], args := [d1, d2, d3, d4] }
  | _ => none }
def numJoinsRow : OpenClaim := { program := "ytdbfaekdkjclcaadoor", sum := "a82d41bd4c4961869140dbd38994f26a73120e82254e49778f936944304a21a8", func := "ceiling/ceilinglaw01.NumJoins", spec := "numJoins", unfollowed := true, recurses := true, named := ["ceiling/num.none", "ceiling/num.full", "ceiling/num.truths"], apart := false, laid := [("ceiling/num.none", laid_ceiling_num_none), ("ceiling/num.full", laid_ceiling_num_full), ("ceiling/num.truths", laid_ceiling_num_truths)] }
def NumJoinsSaid : Prop := numJoinsRow.holds Tryd.pinned (OpenSpec.ofChange numJoinsSpec)

/-- ITS FALSE NEIGHBOUR: 'it returns false'. Refute it at one input. -/
def numJoinsWrong : ChangeSpec := { name := "numJoins", fn := fun _ => fun
  | [d1, d2, d3, d4] => { results := [.lit (.bool false)], args := [d1, d2, d3, d4] }
  | _ => none }
def NumJoinsWrongFalsely : Prop := numJoinsRow.holds Tryd.pinned (OpenSpec.ofChange numJoinsWrong)

/-- 'ceilinglaw01.NumEnds': WHATEVER THE INPUT: true; the input reads as it did. -/
def numEndsSpec : ChangeSpec := { name := "numEnds", fn := fun _ => fun
  | [d1, d2, d3] => { results := [.lit (.bool true)], args := [d1, d2, d3] }
  | _ => none }
def numEndsRow : OpenClaim := { program := "ytdbfaekdkjclcaadoor", sum := "a82d41bd4c4961869140dbd38994f26a73120e82254e49778f936944304a21a8", func := "ceiling/ceilinglaw01.NumEnds", spec := "numEnds", unfollowed := true, recurses := true, named := ["ceiling/num.truths", "ceiling/num.none", "ceiling/num.full"], apart := false, laid := [("ceiling/num.none", laid_ceiling_num_none), ("ceiling/num.full", laid_ceiling_num_full), ("ceiling/num.truths", laid_ceiling_num_truths)] }
def NumEndsSaid : Prop := numEndsRow.holds Tryd.pinned (OpenSpec.ofChange numEndsSpec)

/-- ITS FALSE NEIGHBOUR: 'it returns false'. Refute it at one input. -/
def numEndsWrong : ChangeSpec := { name := "numEnds", fn := fun _ => fun
  | [d1, d2, d3] => { results := [.lit (.bool false)], args := [d1, d2, d3] }
  | _ => none }
def NumEndsWrongFalsely : Prop := numEndsRow.holds Tryd.pinned (OpenSpec.ofChange numEndsWrong)

/-- 'ceilinglaw01.NumExact': WHATEVER THE INPUT: true; the input reads as it did. -/
def numExactSpec : ChangeSpec := { name := "numExact", fn := fun _ => fun
  | [d1, d2, d3, d4, d5] => { results := [.lit (.bool true)], args := [d1, d2, d3, d4, d5] }
  | _ => none }
def numExactRow : OpenClaim := { program := "ytdbfaekdkjclcaadoor", sum := "a82d41bd4c4961869140dbd38994f26a73120e82254e49778f936944304a21a8", func := "ceiling/ceilinglaw01.NumExact", spec := "numExact", unfollowed := true, recurses := true, named := ["ceiling/num.truths", "ceiling/num.none", "ceiling/num.full"], apart := false, laid := [("ceiling/num.none", laid_ceiling_num_none), ("ceiling/num.full", laid_ceiling_num_full), ("ceiling/num.truths", laid_ceiling_num_truths)] }
def NumExactSaid : Prop := numExactRow.holds Tryd.pinned (OpenSpec.ofChange numExactSpec)

/-- ITS FALSE NEIGHBOUR: 'it returns false'. Refute it at one input. -/
def numExactWrong : ChangeSpec := { name := "numExact", fn := fun _ => fun
  | [d1, d2, d3, d4, d5] => { results := [.lit (.bool false)], args := [d1, d2, d3, d4, d5] }
  | _ => none }
def NumExactWrongFalsely : Prop := numExactRow.holds Tryd.pinned (OpenSpec.ofChange numExactWrong)

/- THE SECOND FORM. 'bulk': how many values and letters a reading holds, each counted each time it is reached (what is shared counts as often as it is met; a slice's spare places count too). A statement '..UptoSaid' is the law's where the arguments, and the package variables that the reading takes, are together of bulk at most 1048576: NARROWER than '..Said'. Prove '..Said' where nothing that the law and all that it calls make is longer than what came in: it says more and counts as full. Else prove '..UptoSaid'. A law counts once. -/
mutual
def uptoBulk {H : Type} : DataW H → Nat
  | .lit (.string bytes) => bytes.length + 1
  | .lit _ => 1
  | .nil => 1
  | .ptr d => uptoBulk d + 1
  | .slice elems spare => uptoBulkAll elems + uptoBulkAll spare + 1
  | .agg parts => uptoBulkAll parts + 1
  | .iface _ d => uptoBulk d + 1
  | .map entries => uptoBulkEntries entries + 1
  | .held _ => 1
def uptoBulkAll {H : Type} : List (DataW H) → Nat
  | [] => 0
  | d :: r => uptoBulk d + uptoBulkAll r
def uptoBulkEntries {H : Type} : List (Lit × DataW H) → Nat
  | [] => 0
  | x :: r => uptoBulkEntry x + uptoBulkEntries r
def uptoBulkEntry {H : Type} : Lit × DataW H → Nat
  | (.string bytes, d) => bytes.length + uptoBulk d + 1
  | (_, d) => uptoBulk d + 1
 end
def uptoSmall : (H : Type) → List (DataW H) → Bool := fun _ ds => decide (uptoBulkAll ds ≤ 1048576)
def OpenSpec.upto (s : _root_.Go.ChangeSpec) : _root_.Go.OpenSpec := { _root_.Go.OpenSpec.ofChange s with cond := some uptoSmall }

/-- 'ceilinglaw01.NumRange', WHERE WHAT IT READS IS OF BULK AT MOST 1048576: true; the input reads as it did. -/
def numRangeUptoRow : OpenClaim := { program := "ytdbfaekdkjclcaadoor", sum := "a82d41bd4c4961869140dbd38994f26a73120e82254e49778f936944304a21a8", func := "ceiling/ceilinglaw01.NumRange", spec := "numRange", unfollowed := true, recurses := true, named := ["ceiling/num.none", "ceiling/num.truths", "ceiling/num.full"], apart := false, laid := [("ceiling/num.none", laid_ceiling_num_none), ("ceiling/num.full", laid_ceiling_num_full), ("ceiling/num.truths", laid_ceiling_num_truths)], narrowed := true }
def NumRangeUptoSaid : Prop := numRangeUptoRow.holds Tryd.pinned (OpenSpec.upto numRangeSpec)

/-- 'ceilinglaw01.NumJoins', WHERE WHAT IT READS IS OF BULK AT MOST 1048576: true; the input reads as it did. -/
def numJoinsUptoRow : OpenClaim := { program := "ytdbfaekdkjclcaadoor", sum := "a82d41bd4c4961869140dbd38994f26a73120e82254e49778f936944304a21a8", func := "ceiling/ceilinglaw01.NumJoins", spec := "numJoins", unfollowed := true, recurses := true, named := ["ceiling/num.none", "ceiling/num.full", "ceiling/num.truths"], apart := false, laid := [("ceiling/num.none", laid_ceiling_num_none), ("ceiling/num.full", laid_ceiling_num_full), ("ceiling/num.truths", laid_ceiling_num_truths)], narrowed := true }
def NumJoinsUptoSaid : Prop := numJoinsUptoRow.holds Tryd.pinned (OpenSpec.upto numJoinsSpec)

/-- 'ceilinglaw01.NumEnds', WHERE WHAT IT READS IS OF BULK AT MOST 1048576: true; the input reads as it did. -/
def numEndsUptoRow : OpenClaim := { program := "ytdbfaekdkjclcaadoor", sum := "a82d41bd4c4961869140dbd38994f26a73120e82254e49778f936944304a21a8", func := "ceiling/ceilinglaw01.NumEnds", spec := "numEnds", unfollowed := true, recurses := true, named := ["ceiling/num.truths", "ceiling/num.none", "ceiling/num.full"], apart := false, laid := [("ceiling/num.none", laid_ceiling_num_none), ("ceiling/num.full", laid_ceiling_num_full), ("ceiling/num.truths", laid_ceiling_num_truths)], narrowed := true }
def NumEndsUptoSaid : Prop := numEndsUptoRow.holds Tryd.pinned (OpenSpec.upto numEndsSpec)

/-- 'ceilinglaw01.NumExact', WHERE WHAT IT READS IS OF BULK AT MOST 1048576: true; the input reads as it did. -/
def numExactUptoRow : OpenClaim := { program := "ytdbfaekdkjclcaadoor", sum := "a82d41bd4c4961869140dbd38994f26a73120e82254e49778f936944304a21a8", func := "ceiling/ceilinglaw01.NumExact", spec := "numExact", unfollowed := true, recurses := true, named := ["ceiling/num.truths", "ceiling/num.none", "ceiling/num.full"], apart := false, laid := [("ceiling/num.none", laid_ceiling_num_none), ("ceiling/num.full", laid_ceiling_num_full), ("ceiling/num.truths", laid_ceiling_num_truths)], narrowed := true }
def NumExactUptoSaid : Prop := numExactUptoRow.holds Tryd.pinned (OpenSpec.upto numExactSpec)

end Rows
end Go.Proofs.YtdbfaekdkjclcaaDoor
