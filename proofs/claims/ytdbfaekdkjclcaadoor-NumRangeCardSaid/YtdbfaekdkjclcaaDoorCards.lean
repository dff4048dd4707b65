/-
  DERIVED. GIVEN WITH THE SEED: THE CARDS: each row of YtdbfaekdkjclcaaDoorRows.lean that lists a variable, with what it lists TIED to the program's text (the seventh form; the later family's looks); each row that meets fmt, with fmt's text TOLD by the authors' own Lean function (tested against real Go, not proved from fmt's source: count such statements apart). THE CARD IS WHAT COUNTS. Prove the row's statement (the work); the ties are given (YtdbfaekdkjclcaaDoorTie.lean); close each card by the builder's one call (the guide's Derived/Test/ToyasCard.lean, 'card_holds'). Laid BY PROGRAM, IN A SANDBOX (cutbox-door.mjs). By AI agents, Wed Nov 11 2026. No macro, syntax, notation, axiom, sorry.
-/
import Derived.Test.YtdbfaekdkjclcaaDoorRows
import GoSem.ClaimSeven
namespace Go.Proofs.YtdbfaekdkjclcaaDoor
namespace Rows

/-- THE TIED CARD OF 'ceilinglaw01.NumRange'. -/
def numRangeCard : Claim7 := { stood := { row := numRangeRow, standIns := [], harness := (true, "53ed907dc85469652921faf0199d524f2843bf63c0208bc899a29b8a02f08e32"), looks := false }, kinds := [], alts := [], laidByText := true, laidKinds := [.data, .data, .data], laidTests := true, laidLooks := .later }
def NumRangeCardSaid : Prop := Claim7.holds Tryd.pinned (.plain (OpenSpec.ofChange numRangeSpec)) numRangeCard

/-- THE TIED CARD OF 'ceilinglaw01.NumJoins'. -/
def numJoinsCard : Claim7 := { stood := { row := numJoinsRow, standIns := [], harness := (true, "53ed907dc85469652921faf0199d524f2843bf63c0208bc899a29b8a02f08e32"), looks := false }, kinds := [], alts := [], laidByText := true, laidKinds := [.data, .data, .data], laidTests := true, laidLooks := .later }
def NumJoinsCardSaid : Prop := Claim7.holds Tryd.pinned (.plain (OpenSpec.ofChange numJoinsSpec)) numJoinsCard

/-- THE TIED CARD OF 'ceilinglaw01.NumEnds'. -/
def numEndsCard : Claim7 := { stood := { row := numEndsRow, standIns := [], harness := (true, "53ed907dc85469652921faf0199d524f2843bf63c0208bc899a29b8a02f08e32"), looks := false }, kinds := [], alts := [], laidByText := true, laidKinds := [.data, .data, .data], laidTests := true, laidLooks := .later }
def NumEndsCardSaid : Prop := Claim7.holds Tryd.pinned (.plain (OpenSpec.ofChange numEndsSpec)) numEndsCard

/-- THE TIED CARD OF 'ceilinglaw01.NumExact'. -/
def numExactCard : Claim7 := { stood := { row := numExactRow, standIns := [], harness := (true, "53ed907dc85469652921faf0199d524f2843bf63c0208bc899a29b8a02f08e32"), looks := false }, kinds := [], alts := [], laidByText := true, laidKinds := [.data, .data, .data], laidTests := true, laidLooks := .later }
def NumExactCardSaid : Prop := Claim7.holds Tryd.pinned (.plain (OpenSpec.ofChange numExactSpec)) numExactCard

/-- THE SECOND FORM's CARD OF 'ceilinglaw01.NumRange'. -/
def numRangeUptoCard : Claim7 := { stood := { row := numRangeUptoRow, standIns := [], harness := (true, "53ed907dc85469652921faf0199d524f2843bf63c0208bc899a29b8a02f08e32"), looks := false }, kinds := [], alts := [], laidByText := true, laidKinds := [.data, .data, .data], laidTests := true, laidLooks := .later }
def NumRangeUptoCardSaid : Prop := Claim7.holds Tryd.pinned (.plain (OpenSpec.upto numRangeSpec)) numRangeUptoCard

/-- THE SECOND FORM's CARD OF 'ceilinglaw01.NumJoins'. -/
def numJoinsUptoCard : Claim7 := { stood := { row := numJoinsUptoRow, standIns := [], harness := (true, "53ed907dc85469652921faf0199d524f2843bf63c0208bc899a29b8a02f08e32"), looks := false }, kinds := [], alts := [], laidByText := true, laidKinds := [.data, .data, .data], laidTests := true, laidLooks := .later }
def NumJoinsUptoCardSaid : Prop := Claim7.holds Tryd.pinned (.plain (OpenSpec.upto numJoinsSpec)) numJoinsUptoCard

/-- THE SECOND FORM's CARD OF 'ceilinglaw01.NumEnds'. -/
def numEndsUptoCard : Claim7 := { stood := { row := numEndsUptoRow, standIns := [], harness := (true, "53ed907dc85469652921faf0199d524f2843bf63c0208bc899a29b8a02f08e32"), looks := false }, kinds := [], alts := [], laidByText := true, laidKinds := [.data, .data, .data], laidTests := true, laidLooks := .later }
def NumEndsUptoCardSaid : Prop := Claim7.holds Tryd.pinned (.plain (OpenSpec.upto numEndsSpec)) numEndsUptoCard

/-- THE SECOND FORM's CARD OF 'ceilinglaw01.NumExact'. -/
def numExactUptoCard : Claim7 := { stood := { row := numExactUptoRow, standIns := [], harness := (true, "53ed907dc85469652921faf0199d524f2843bf63c0208bc899a29b8a02f08e32"), looks := false }, kinds := [], alts := [], laidByText := true, laidKinds := [.data, .data, .data], laidTests := true, laidLooks := .later }
def NumExactUptoCardSaid : Prop := Claim7.holds Tryd.pinned (.plain (OpenSpec.upto numExactSpec)) numExactUptoCard
end Rows
end Go.Proofs.YtdbfaekdkjclcaaDoor
