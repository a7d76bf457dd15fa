/-
  DERIVED. GIVEN WITH THE SEED: THE CARDS: each row of YtfbpkoboccickaaDoorRows.lean that lists a variable, with what it lists TIED to the program's text (the seventh form; the later family's looks); each row that meets fmt, with fmt's text TOLD by the authors' own Lean function (tested against real Go, not proved from fmt's source: count such statements apart). THE CARD IS WHAT COUNTS. Prove the row's statement (the work); the ties are given (YtfbpkoboccickaaDoorTie.lean); close each card by the builder's one call (the guide's Derived/Test/ToyasCard.lean, 'card_holds'). Laid BY PROGRAM, IN A SANDBOX (cutbox-door.mjs). By AI agents, Wed Nov 11 2026. No macro, syntax, notation, axiom, sorry.
-/
import Derived.Test.YtfbpkoboccickaaDoorRows
import GoSem.ClaimSeven
namespace Go.Proofs.YtfbpkoboccickaaDoor
namespace Rows

/-- THE TIED CARD OF 'laws.FnHeld'. -/
def fnHeldCard : Claim7 := { stood := { row := fnHeldRow, standIns := [], harness := (true, "d53995b922141e3d87d7d21f01d030d1caf2feab007ad0d29e4906e83bdfd3f4"), looks := true }, kinds := [], alts := [], laidByText := true, laidKinds := [.data, .data, .data, .sentinel, .sentinel, .sentinel, .sentinel, .sentinel, .sentinel, .sentinel, .sentinel], laidTests := true, laidLooks := .later }
def FnHeldCardSaid : Prop := Claim7.holds Tryd.pinned (.plain (OpenSpec.ofChange fnHeldSpec)) fnHeldCard

/-- THE TIED CARD OF 'laws.FnMen'. -/
def fnMenCard : Claim7 := { stood := { row := fnMenRow, standIns := [], harness := (true, "d53995b922141e3d87d7d21f01d030d1caf2feab007ad0d29e4906e83bdfd3f4"), looks := true }, kinds := [], alts := [], laidByText := true, laidKinds := [.data, .data, .data, .sentinel, .sentinel, .sentinel, .sentinel, .sentinel, .sentinel, .sentinel, .sentinel], laidTests := true, laidLooks := .later }
def FnMenCardSaid : Prop := Claim7.holds Tryd.pinned (.plain (OpenSpec.ofChange fnMenSpec)) fnMenCard

/-- THE SECOND FORM's CARD OF 'laws.FnHeld'. -/
def fnHeldUptoCard : Claim7 := { stood := { row := fnHeldUptoRow, standIns := [], harness := (true, "d53995b922141e3d87d7d21f01d030d1caf2feab007ad0d29e4906e83bdfd3f4"), looks := true }, kinds := [], alts := [], laidByText := true, laidKinds := [.data, .data, .data, .sentinel, .sentinel, .sentinel, .sentinel, .sentinel, .sentinel, .sentinel, .sentinel], laidTests := true, laidLooks := .later }
def FnHeldUptoCardSaid : Prop := Claim7.holds Tryd.pinned (.plain (OpenSpec.upto fnHeldSpec)) fnHeldUptoCard

/-- THE SECOND FORM's CARD OF 'laws.FnMen'. -/
def fnMenUptoCard : Claim7 := { stood := { row := fnMenUptoRow, standIns := [], harness := (true, "d53995b922141e3d87d7d21f01d030d1caf2feab007ad0d29e4906e83bdfd3f4"), looks := true }, kinds := [], alts := [], laidByText := true, laidKinds := [.data, .data, .data, .sentinel, .sentinel, .sentinel, .sentinel, .sentinel, .sentinel, .sentinel, .sentinel], laidTests := true, laidLooks := .later }
def FnMenUptoCardSaid : Prop := Claim7.holds Tryd.pinned (.plain (OpenSpec.upto fnMenSpec)) fnMenUptoCard
end Rows
end Go.Proofs.YtfbpkoboccickaaDoor
