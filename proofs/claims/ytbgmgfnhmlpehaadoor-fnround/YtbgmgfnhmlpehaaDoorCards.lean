/-
  DERIVED. GIVEN WITH THE SEED: THE CARDS: each row of YtbgmgfnhmlpehaaDoorRows.lean that lists a variable, with what it lists TIED to the program's text (the seventh form; the later family's looks); each row that meets fmt, with fmt's text TOLD by the authors' own Lean function (tested against real Go, not proved from fmt's source: count such statements apart). THE CARD IS WHAT COUNTS. Prove the row's statement (the work); the ties are given (YtbgmgfnhmlpehaaDoorTie.lean); close each card by the builder's one call (the guide's Derived/Test/ToyasCard.lean, 'card_holds'). Laid BY PROGRAM, IN A SANDBOX (cutbox-door.mjs). By AI agents, Wed Nov 11 2026. No macro, syntax, notation, axiom, sorry.
-/
import Derived.Test.YtbgmgfnhmlpehaaDoorRows
import GoSem.ClaimSeven
namespace Go.Proofs.YtbgmgfnhmlpehaaDoor
namespace Rows

/-- THE TIED CARD OF 'laws.FnHeld'. -/
def fnHeldCard : Claim7 := { stood := { row := fnHeldRow, standIns := [], harness := (true, "c69eea7b92f2ea45e677bd5ecd2d6dd059f7623a5dfc6dd7d51e18cf42baa604"), looks := true }, kinds := [], alts := [], laidByText := true, laidKinds := [.data, .data, .data, .sentinel, .sentinel, .sentinel, .sentinel, .sentinel, .sentinel, .sentinel, .sentinel], laidTests := true, laidLooks := .later }
def FnHeldCardSaid : Prop := Claim7.holds Tryd.pinned (.plain (OpenSpec.ofChange fnHeldSpec)) fnHeldCard

/-- THE TIED CARD OF 'laws.FnMen'. -/
def fnMenCard : Claim7 := { stood := { row := fnMenRow, standIns := [], harness := (true, "c69eea7b92f2ea45e677bd5ecd2d6dd059f7623a5dfc6dd7d51e18cf42baa604"), looks := true }, kinds := [], alts := [], laidByText := true, laidKinds := [.data, .data, .data, .sentinel, .sentinel, .sentinel, .sentinel, .sentinel, .sentinel, .sentinel, .sentinel], laidTests := true, laidLooks := .later }
def FnMenCardSaid : Prop := Claim7.holds Tryd.pinned (.plain (OpenSpec.ofChange fnMenSpec)) fnMenCard

/-- THE TIED CARD OF 'laws.FnRound'. -/
def fnRoundCard : Claim7 := { stood := { row := fnRoundRow, standIns := [], harness := (true, "c69eea7b92f2ea45e677bd5ecd2d6dd059f7623a5dfc6dd7d51e18cf42baa604"), looks := true }, kinds := [], alts := [], laidByText := true, laidKinds := [.data, .data, .data, .sentinel, .sentinel, .sentinel, .sentinel, .sentinel, .sentinel, .sentinel, .sentinel], laidTests := true, laidLooks := .later }
def FnRoundCardSaid : Prop := Claim7.holds Tryd.pinned (.plain (OpenSpec.ofChange fnRoundSpec)) fnRoundCard

/-- THE TIED CARD OF 'laws.FnExactOrderText'. -/
def fnExactOrderTextCard : Claim7 := { stood := { row := fnExactOrderTextRow, standIns := [], harness := (true, "c69eea7b92f2ea45e677bd5ecd2d6dd059f7623a5dfc6dd7d51e18cf42baa604"), looks := true }, kinds := [], alts := [], laidByText := true, laidKinds := [.data, .data, .data], laidTests := true, laidLooks := .later }
def FnExactOrderTextCardSaid : Prop := Claim7.holds Tryd.pinned (.plain (OpenSpec.ofChange fnExactOrderTextSpec)) fnExactOrderTextCard

/-- THE SECOND FORM's CARD OF 'laws.FnHeld'. -/
def fnHeldUptoCard : Claim7 := { stood := { row := fnHeldUptoRow, standIns := [], harness := (true, "c69eea7b92f2ea45e677bd5ecd2d6dd059f7623a5dfc6dd7d51e18cf42baa604"), looks := true }, kinds := [], alts := [], laidByText := true, laidKinds := [.data, .data, .data, .sentinel, .sentinel, .sentinel, .sentinel, .sentinel, .sentinel, .sentinel, .sentinel], laidTests := true, laidLooks := .later }
def FnHeldUptoCardSaid : Prop := Claim7.holds Tryd.pinned (.plain (OpenSpec.upto fnHeldSpec)) fnHeldUptoCard

/-- THE SECOND FORM's CARD OF 'laws.FnMen'. -/
def fnMenUptoCard : Claim7 := { stood := { row := fnMenUptoRow, standIns := [], harness := (true, "c69eea7b92f2ea45e677bd5ecd2d6dd059f7623a5dfc6dd7d51e18cf42baa604"), looks := true }, kinds := [], alts := [], laidByText := true, laidKinds := [.data, .data, .data, .sentinel, .sentinel, .sentinel, .sentinel, .sentinel, .sentinel, .sentinel, .sentinel], laidTests := true, laidLooks := .later }
def FnMenUptoCardSaid : Prop := Claim7.holds Tryd.pinned (.plain (OpenSpec.upto fnMenSpec)) fnMenUptoCard

/-- THE SECOND FORM's CARD OF 'laws.FnRound'. -/
def fnRoundUptoCard : Claim7 := { stood := { row := fnRoundUptoRow, standIns := [], harness := (true, "c69eea7b92f2ea45e677bd5ecd2d6dd059f7623a5dfc6dd7d51e18cf42baa604"), looks := true }, kinds := [], alts := [], laidByText := true, laidKinds := [.data, .data, .data, .sentinel, .sentinel, .sentinel, .sentinel, .sentinel, .sentinel, .sentinel, .sentinel], laidTests := true, laidLooks := .later }
def FnRoundUptoCardSaid : Prop := Claim7.holds Tryd.pinned (.plain (OpenSpec.upto fnRoundSpec)) fnRoundUptoCard

/-- THE SECOND FORM's CARD OF 'laws.FnExactOrderText'. -/
def fnExactOrderTextUptoCard : Claim7 := { stood := { row := fnExactOrderTextUptoRow, standIns := [], harness := (true, "c69eea7b92f2ea45e677bd5ecd2d6dd059f7623a5dfc6dd7d51e18cf42baa604"), looks := true }, kinds := [], alts := [], laidByText := true, laidKinds := [.data, .data, .data], laidTests := true, laidLooks := .later }
def FnExactOrderTextUptoCardSaid : Prop := Claim7.holds Tryd.pinned (.plain (OpenSpec.upto fnExactOrderTextSpec)) fnExactOrderTextUptoCard
end Rows
end Go.Proofs.YtbgmgfnhmlpehaaDoor
