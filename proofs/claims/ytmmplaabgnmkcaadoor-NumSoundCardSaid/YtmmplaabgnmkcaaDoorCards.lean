/-
  DERIVED. GIVEN WITH THE SEED: THE CARDS: each row of YtmmplaabgnmkcaaDoorRows.lean that lists a variable, with what it lists TIED to the program's text (the seventh form; the later family's looks); each row that meets fmt, with fmt's text TOLD by the authors' own Lean function (tested against real Go, not proved from fmt's source: count such statements apart). THE CARD IS WHAT COUNTS. Prove the row's statement (the work); the ties are given (YtmmplaabgnmkcaaDoorTie.lean); close each card by the builder's one call (the guide's Derived/Test/ToyasCard.lean, 'card_holds'). Laid BY PROGRAM, IN A SANDBOX (cutbox-door.mjs). By AI agents, Wed Nov 11 2026. No macro, syntax, notation, axiom, sorry.
-/
import Derived.Test.YtmmplaabgnmkcaaDoorRows
import GoSem.ClaimSeven
namespace Go.Proofs.YtmmplaabgnmkcaaDoor
namespace Rows

/-- THE TIED CARD OF 'ceilinglaw01.NumApply'. -/
def numApplyCard : Claim7 := { stood := { row := numApplyRow, standIns := [], harness := (true, "190b5366996eb0a2927df0818d354dbe43ce3e94cadefcb1a41fea81c4745f7d"), looks := false }, kinds := [], alts := [], laidByText := true, laidKinds := [.data, .data, .data], laidTests := true, laidLooks := .later }
def NumApplyCardSaid : Prop := Claim7.holds Tryd.pinned (.plain (OpenSpec.ofChange numApplySpec)) numApplyCard

/-- THE TIED CARD OF 'ceilinglaw01.NumWrap'. -/
def numWrapCard : Claim7 := { stood := { row := numWrapRow, standIns := [], harness := (true, "190b5366996eb0a2927df0818d354dbe43ce3e94cadefcb1a41fea81c4745f7d"), looks := false }, kinds := [], alts := [], laidByText := true, laidKinds := [.data, .data, .data], laidTests := true, laidLooks := .later }
def NumWrapCardSaid : Prop := Claim7.holds Tryd.pinned (.plain (OpenSpec.ofChange numWrapSpec)) numWrapCard

/-- THE TIED CARD OF 'ceilinglaw01.NumIvals'. -/
def numIvalsCard : Claim7 := { stood := { row := numIvalsRow, standIns := [], harness := (true, "190b5366996eb0a2927df0818d354dbe43ce3e94cadefcb1a41fea81c4745f7d"), looks := false }, kinds := [], alts := [], laidByText := true, laidKinds := [.data, .data, .data], laidTests := true, laidLooks := .later }
def NumIvalsCardSaid : Prop := Claim7.holds Tryd.pinned (.plain (OpenSpec.ofChange numIvalsSpec)) numIvalsCard

/-- THE TIED CARD OF 'ceilinglaw01.NumRange'. -/
def numRangeCard : Claim7 := { stood := { row := numRangeRow, standIns := [], harness := (true, "190b5366996eb0a2927df0818d354dbe43ce3e94cadefcb1a41fea81c4745f7d"), looks := false }, kinds := [], alts := [], laidByText := true, laidKinds := [.data, .data, .data], laidTests := true, laidLooks := .later }
def NumRangeCardSaid : Prop := Claim7.holds Tryd.pinned (.plain (OpenSpec.ofChange numRangeSpec)) numRangeCard

/-- THE TIED CARD OF 'ceilinglaw01.NumAgrees'. -/
def numAgreesCard : Claim7 := { stood := { row := numAgreesRow, standIns := [], harness := (true, "190b5366996eb0a2927df0818d354dbe43ce3e94cadefcb1a41fea81c4745f7d"), looks := false }, kinds := [], alts := [], laidByText := true, laidKinds := [.data, .data, .data], laidTests := true, laidLooks := .later }
def NumAgreesCardSaid : Prop := Claim7.holds Tryd.pinned (.plain (OpenSpec.ofChange numAgreesSpec)) numAgreesCard

/-- THE TIED CARD OF 'ceilinglaw01.NumSound'. -/
def numSoundCard : Claim7 := { stood := { row := numSoundRow, standIns := [], harness := (true, "190b5366996eb0a2927df0818d354dbe43ce3e94cadefcb1a41fea81c4745f7d"), looks := false }, kinds := [], alts := [], laidByText := true, laidKinds := [.data, .data, .data], laidTests := true, laidLooks := .later }
def NumSoundCardSaid : Prop := Claim7.holds Tryd.pinned (.plain (OpenSpec.ofChange numSoundSpec)) numSoundCard

/-- THE TIED CARD OF 'ceilinglaw01.NumJoins'. -/
def numJoinsCard : Claim7 := { stood := { row := numJoinsRow, standIns := [], harness := (true, "190b5366996eb0a2927df0818d354dbe43ce3e94cadefcb1a41fea81c4745f7d"), looks := false }, kinds := [], alts := [], laidByText := true, laidKinds := [.data, .data, .data], laidTests := true, laidLooks := .later }
def NumJoinsCardSaid : Prop := Claim7.holds Tryd.pinned (.plain (OpenSpec.ofChange numJoinsSpec)) numJoinsCard

/-- THE TIED CARD OF 'ceilinglaw01.NumEnds'. -/
def numEndsCard : Claim7 := { stood := { row := numEndsRow, standIns := [], harness := (true, "190b5366996eb0a2927df0818d354dbe43ce3e94cadefcb1a41fea81c4745f7d"), looks := false }, kinds := [], alts := [], laidByText := true, laidKinds := [.data, .data, .data], laidTests := true, laidLooks := .later }
def NumEndsCardSaid : Prop := Claim7.holds Tryd.pinned (.plain (OpenSpec.ofChange numEndsSpec)) numEndsCard

/-- THE TIED CARD OF 'ceilinglaw01.NumExact'. -/
def numExactCard : Claim7 := { stood := { row := numExactRow, standIns := [], harness := (true, "190b5366996eb0a2927df0818d354dbe43ce3e94cadefcb1a41fea81c4745f7d"), looks := false }, kinds := [], alts := [], laidByText := true, laidKinds := [.data, .data, .data], laidTests := true, laidLooks := .later }
def NumExactCardSaid : Prop := Claim7.holds Tryd.pinned (.plain (OpenSpec.ofChange numExactSpec)) numExactCard

/-- THE SECOND FORM's CARD OF 'ceilinglaw01.NumApply'. -/
def numApplyUptoCard : Claim7 := { stood := { row := numApplyUptoRow, standIns := [], harness := (true, "190b5366996eb0a2927df0818d354dbe43ce3e94cadefcb1a41fea81c4745f7d"), looks := false }, kinds := [], alts := [], laidByText := true, laidKinds := [.data, .data, .data], laidTests := true, laidLooks := .later }
def NumApplyUptoCardSaid : Prop := Claim7.holds Tryd.pinned (.plain (OpenSpec.upto numApplySpec)) numApplyUptoCard

/-- THE SECOND FORM's CARD OF 'ceilinglaw01.NumWrap'. -/
def numWrapUptoCard : Claim7 := { stood := { row := numWrapUptoRow, standIns := [], harness := (true, "190b5366996eb0a2927df0818d354dbe43ce3e94cadefcb1a41fea81c4745f7d"), looks := false }, kinds := [], alts := [], laidByText := true, laidKinds := [.data, .data, .data], laidTests := true, laidLooks := .later }
def NumWrapUptoCardSaid : Prop := Claim7.holds Tryd.pinned (.plain (OpenSpec.upto numWrapSpec)) numWrapUptoCard

/-- THE SECOND FORM's CARD OF 'ceilinglaw01.NumIvals'. -/
def numIvalsUptoCard : Claim7 := { stood := { row := numIvalsUptoRow, standIns := [], harness := (true, "190b5366996eb0a2927df0818d354dbe43ce3e94cadefcb1a41fea81c4745f7d"), looks := false }, kinds := [], alts := [], laidByText := true, laidKinds := [.data, .data, .data], laidTests := true, laidLooks := .later }
def NumIvalsUptoCardSaid : Prop := Claim7.holds Tryd.pinned (.plain (OpenSpec.upto numIvalsSpec)) numIvalsUptoCard

/-- THE SECOND FORM's CARD OF 'ceilinglaw01.NumRange'. -/
def numRangeUptoCard : Claim7 := { stood := { row := numRangeUptoRow, standIns := [], harness := (true, "190b5366996eb0a2927df0818d354dbe43ce3e94cadefcb1a41fea81c4745f7d"), looks := false }, kinds := [], alts := [], laidByText := true, laidKinds := [.data, .data, .data], laidTests := true, laidLooks := .later }
def NumRangeUptoCardSaid : Prop := Claim7.holds Tryd.pinned (.plain (OpenSpec.upto numRangeSpec)) numRangeUptoCard

/-- THE SECOND FORM's CARD OF 'ceilinglaw01.NumAgrees'. -/
def numAgreesUptoCard : Claim7 := { stood := { row := numAgreesUptoRow, standIns := [], harness := (true, "190b5366996eb0a2927df0818d354dbe43ce3e94cadefcb1a41fea81c4745f7d"), looks := false }, kinds := [], alts := [], laidByText := true, laidKinds := [.data, .data, .data], laidTests := true, laidLooks := .later }
def NumAgreesUptoCardSaid : Prop := Claim7.holds Tryd.pinned (.plain (OpenSpec.upto numAgreesSpec)) numAgreesUptoCard

/-- THE SECOND FORM's CARD OF 'ceilinglaw01.NumSound'. -/
def numSoundUptoCard : Claim7 := { stood := { row := numSoundUptoRow, standIns := [], harness := (true, "190b5366996eb0a2927df0818d354dbe43ce3e94cadefcb1a41fea81c4745f7d"), looks := false }, kinds := [], alts := [], laidByText := true, laidKinds := [.data, .data, .data], laidTests := true, laidLooks := .later }
def NumSoundUptoCardSaid : Prop := Claim7.holds Tryd.pinned (.plain (OpenSpec.upto numSoundSpec)) numSoundUptoCard

/-- THE SECOND FORM's CARD OF 'ceilinglaw01.NumJoins'. -/
def numJoinsUptoCard : Claim7 := { stood := { row := numJoinsUptoRow, standIns := [], harness := (true, "190b5366996eb0a2927df0818d354dbe43ce3e94cadefcb1a41fea81c4745f7d"), looks := false }, kinds := [], alts := [], laidByText := true, laidKinds := [.data, .data, .data], laidTests := true, laidLooks := .later }
def NumJoinsUptoCardSaid : Prop := Claim7.holds Tryd.pinned (.plain (OpenSpec.upto numJoinsSpec)) numJoinsUptoCard

/-- THE SECOND FORM's CARD OF 'ceilinglaw01.NumEnds'. -/
def numEndsUptoCard : Claim7 := { stood := { row := numEndsUptoRow, standIns := [], harness := (true, "190b5366996eb0a2927df0818d354dbe43ce3e94cadefcb1a41fea81c4745f7d"), looks := false }, kinds := [], alts := [], laidByText := true, laidKinds := [.data, .data, .data], laidTests := true, laidLooks := .later }
def NumEndsUptoCardSaid : Prop := Claim7.holds Tryd.pinned (.plain (OpenSpec.upto numEndsSpec)) numEndsUptoCard

/-- THE SECOND FORM's CARD OF 'ceilinglaw01.NumExact'. -/
def numExactUptoCard : Claim7 := { stood := { row := numExactUptoRow, standIns := [], harness := (true, "190b5366996eb0a2927df0818d354dbe43ce3e94cadefcb1a41fea81c4745f7d"), looks := false }, kinds := [], alts := [], laidByText := true, laidKinds := [.data, .data, .data], laidTests := true, laidLooks := .later }
def NumExactUptoCardSaid : Prop := Claim7.holds Tryd.pinned (.plain (OpenSpec.upto numExactSpec)) numExactUptoCard
end Rows
end Go.Proofs.YtmmplaabgnmkcaaDoor
