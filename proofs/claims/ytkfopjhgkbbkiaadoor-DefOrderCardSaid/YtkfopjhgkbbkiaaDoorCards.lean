/-
  DERIVED. GIVEN WITH THE SEED: THE CARDS: each row of YtkfopjhgkbbkiaaDoorRows.lean that lists a variable, with what it lists TIED to the program's text (the seventh form; the later family's looks); each row that meets fmt, with fmt's text TOLD by the authors' own Lean function (tested against real Go, not proved from fmt's source: count such statements apart). THE CARD IS WHAT COUNTS. Prove the row's statement (the work); the ties are given (YtkfopjhgkbbkiaaDoorTie.lean); close each card by the builder's one call (the guide's Derived/Test/ToyasCard.lean, 'card_holds'). Laid BY PROGRAM, IN A SANDBOX (cutbox-door.mjs). By AI agents, Wed Nov 11 2026. No macro, syntax, notation, axiom, sorry.
-/
import Derived.Test.YtkfopjhgkbbkiaaDoorRows
import GoSem.ClaimSeven
namespace Go.Proofs.YtkfopjhgkbbkiaaDoor
namespace Rows

/-- THE TIED CARD OF 'outriderlaw12.DefKnown'. -/
def defKnownCard : Claim7 := { stood := { row := defKnownRow, standIns := [], harness := (true, "29e5402e7c6459039a3fe3b8cc7f427266d79413c9dfa39b3e7f3256f2409cbf"), looks := false }, kinds := [], alts := [], laidByText := true, laidKinds := [.data, .data, .data, .data, .pinned], laidTests := true, laidLooks := .later }
def DefKnownCardSaid : Prop := Claim7.holds Tryd.pinned (.plain (OpenSpec.ofChange defKnownSpec)) defKnownCard

/-- THE TIED CARD OF 'outriderlaw12.DefBack'. -/
def defBackCard : Claim7 := { stood := { row := defBackRow, standIns := [], harness := (true, "29e5402e7c6459039a3fe3b8cc7f427266d79413c9dfa39b3e7f3256f2409cbf"), looks := false }, kinds := [], alts := [], laidByText := true, laidKinds := [.data, .data, .data, .data, .pinned], laidTests := true, laidLooks := .later }
def DefBackCardSaid : Prop := Claim7.holds Tryd.pinned (.plain (OpenSpec.ofChange defBackSpec)) defBackCard

/-- THE TIED CARD OF 'outriderlaw12.DefOrder'. -/
def defOrderCard : Claim7 := { stood := { row := defOrderRow, standIns := [], harness := (true, "29e5402e7c6459039a3fe3b8cc7f427266d79413c9dfa39b3e7f3256f2409cbf"), looks := false }, kinds := [], alts := [], laidByText := true, laidKinds := [.data, .data, .data, .data, .pinned], laidTests := true, laidLooks := .later }
def DefOrderCardSaid : Prop := Claim7.holds Tryd.pinned (.plain (OpenSpec.ofChange defOrderSpec)) defOrderCard

/-- THE SECOND FORM's CARD OF 'outriderlaw12.DefKnown'. -/
def defKnownUptoCard : Claim7 := { stood := { row := defKnownUptoRow, standIns := [], harness := (true, "29e5402e7c6459039a3fe3b8cc7f427266d79413c9dfa39b3e7f3256f2409cbf"), looks := false }, kinds := [], alts := [], laidByText := true, laidKinds := [.data, .data, .data, .data, .pinned], laidTests := true, laidLooks := .later }
def DefKnownUptoCardSaid : Prop := Claim7.holds Tryd.pinned (.plain (OpenSpec.upto defKnownSpec)) defKnownUptoCard

/-- THE SECOND FORM's CARD OF 'outriderlaw12.DefBack'. -/
def defBackUptoCard : Claim7 := { stood := { row := defBackUptoRow, standIns := [], harness := (true, "29e5402e7c6459039a3fe3b8cc7f427266d79413c9dfa39b3e7f3256f2409cbf"), looks := false }, kinds := [], alts := [], laidByText := true, laidKinds := [.data, .data, .data, .data, .pinned], laidTests := true, laidLooks := .later }
def DefBackUptoCardSaid : Prop := Claim7.holds Tryd.pinned (.plain (OpenSpec.upto defBackSpec)) defBackUptoCard

/-- THE SECOND FORM's CARD OF 'outriderlaw12.DefOrder'. -/
def defOrderUptoCard : Claim7 := { stood := { row := defOrderUptoRow, standIns := [], harness := (true, "29e5402e7c6459039a3fe3b8cc7f427266d79413c9dfa39b3e7f3256f2409cbf"), looks := false }, kinds := [], alts := [], laidByText := true, laidKinds := [.data, .data, .data, .data, .pinned], laidTests := true, laidLooks := .later }
def DefOrderUptoCardSaid : Prop := Claim7.holds Tryd.pinned (.plain (OpenSpec.upto defOrderSpec)) defOrderUptoCard
end Rows
end Go.Proofs.YtkfopjhgkbbkiaaDoor
