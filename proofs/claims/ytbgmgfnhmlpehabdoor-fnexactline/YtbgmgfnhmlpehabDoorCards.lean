/-
  DERIVED. GIVEN WITH THE SEED: THE CARDS: each row of YtbgmgfnhmlpehabDoorRows.lean that lists a variable, with what it lists TIED to the program's text (the seventh form; the later family's looks); each row that meets fmt, with fmt's text TOLD by the authors' own Lean function (tested against real Go, not proved from fmt's source: count such statements apart). THE CARD IS WHAT COUNTS. Prove the row's statement (the work); the ties are given (YtbgmgfnhmlpehabDoorTie.lean); close each card by the builder's one call (the guide's Derived/Test/ToyasCard.lean, 'card_holds'). Laid BY PROGRAM, IN A SANDBOX (cutbox-door.mjs). By AI agents, Wed Nov 11 2026. No macro, syntax, notation, axiom, sorry.
-/
import Derived.Test.YtbgmgfnhmlpehabDoorRows
import GoSem.ClaimSeven
namespace Go.Proofs.YtbgmgfnhmlpehabDoor
namespace Rows

/-- THE TIED CARD OF 'laws.FnExactLine'. -/
def fnExactLineCard : Claim7 := { stood := { row := fnExactLineRow, standIns := [], harness := (true, "a5727036b8b25a77ebac858630b9b40af1816f680538fa95ad43cf9960494924"), looks := true }, kinds := [], alts := [], laidByText := true, laidKinds := [.data, .data, .data, .data], laidTests := true, laidLooks := .later }
def FnExactLineCardSaid : Prop := Claim7.holds Tryd.pinned (.plain (OpenSpec.ofChange fnExactLineSpec)) fnExactLineCard

/-- THE TIED CARD OF 'laws.FnExactHear'. -/
def fnExactHearCard : Claim7 := { stood := { row := fnExactHearRow, standIns := [], harness := (true, "a5727036b8b25a77ebac858630b9b40af1816f680538fa95ad43cf9960494924"), looks := true }, kinds := [], alts := [], laidByText := true, laidKinds := [.data, .data, .data, .sentinel, .sentinel, .data], laidTests := true, laidLooks := .later }
def FnExactHearCardSaid : Prop := Claim7.holds Tryd.pinned (.plain (OpenSpec.ofChange fnExactHearSpec)) fnExactHearCard

/-- THE SECOND FORM's CARD OF 'laws.FnExactLine'. -/
def fnExactLineUptoCard : Claim7 := { stood := { row := fnExactLineUptoRow, standIns := [], harness := (true, "a5727036b8b25a77ebac858630b9b40af1816f680538fa95ad43cf9960494924"), looks := true }, kinds := [], alts := [], laidByText := true, laidKinds := [.data, .data, .data, .data], laidTests := true, laidLooks := .later }
def FnExactLineUptoCardSaid : Prop := Claim7.holds Tryd.pinned (.plain (OpenSpec.upto fnExactLineSpec)) fnExactLineUptoCard

/-- THE SECOND FORM's CARD OF 'laws.FnExactHear'. -/
def fnExactHearUptoCard : Claim7 := { stood := { row := fnExactHearUptoRow, standIns := [], harness := (true, "a5727036b8b25a77ebac858630b9b40af1816f680538fa95ad43cf9960494924"), looks := true }, kinds := [], alts := [], laidByText := true, laidKinds := [.data, .data, .data, .sentinel, .sentinel, .data], laidTests := true, laidLooks := .later }
def FnExactHearUptoCardSaid : Prop := Claim7.holds Tryd.pinned (.plain (OpenSpec.upto fnExactHearSpec)) fnExactHearUptoCard
end Rows
end Go.Proofs.YtbgmgfnhmlpehabDoor
