/-
  DERIVED. GIVEN WITH THE SEED: THE CARDS: each row of YtpaolgjgonghlaaDoorRows.lean that lists a variable, with what it lists TIED to the program's text (the seventh form; the later family's looks); each row that meets fmt, with fmt's text TOLD by the authors' own Lean function (tested against real Go, not proved from fmt's source: count such statements apart). THE CARD IS WHAT COUNTS. Prove the row's statement (the work); the ties are given (YtpaolgjgonghlaaDoorTie.lean); close each card by the builder's one call (the guide's Derived/Test/ToyasCard.lean, 'card_holds'). Laid BY PROGRAM, IN A SANDBOX (cutbox-door.mjs). By AI agents, Wed Nov 11 2026. No macro, syntax, notation, axiom, sorry.
-/
import Derived.Test.YtpaolgjgonghlaaDoorRows
import GoSem.ClaimSeven
namespace Go.Proofs.YtpaolgjgonghlaaDoor
namespace Rows

/-- THE TIED CARD OF 'outriderlaw16.RunKnown'. -/
def runKnownCard : Claim7 := { stood := { row := runKnownRow, standIns := [], harness := (true, "9b51003ce301e06462fed6995843e0de102e7963d4f3ec071b538736d18e9478"), looks := false }, kinds := [], alts := [], laidByText := true, laidKinds := [.data, .pinned], laidTests := true, laidLooks := .later }
def RunKnownCardSaid : Prop := Claim7.holds Tryd.pinned (.plain (OpenSpec.ofChange runKnownSpec)) runKnownCard

/-- THE TIED CARD OF 'outriderlaw16.RunOrder'. -/
def runOrderCard : Claim7 := { stood := { row := runOrderRow, standIns := [], harness := (true, "9b51003ce301e06462fed6995843e0de102e7963d4f3ec071b538736d18e9478"), looks := false }, kinds := [], alts := [], laidByText := true, laidKinds := [.data, .pinned], laidTests := true, laidLooks := .later }
def RunOrderCardSaid : Prop := Claim7.holds Tryd.pinned (.plain (OpenSpec.ofChange runOrderSpec)) runOrderCard

/-- THE TIED CARD OF 'outriderlaw16.RunEnds'. -/
def runEndsCard : Claim7 := { stood := { row := runEndsRow, standIns := [], harness := (true, "9b51003ce301e06462fed6995843e0de102e7963d4f3ec071b538736d18e9478"), looks := false }, kinds := [], alts := [], laidByText := true, laidKinds := [.data, .pinned], laidTests := true, laidLooks := .later }
def RunEndsCardSaid : Prop := Claim7.holds Tryd.pinned (.plain (OpenSpec.ofChange runEndsSpec)) runEndsCard

/-- THE TIED CARD OF 'outriderlaw16.RunRetries'. -/
def runRetriesCard : Claim7 := { stood := { row := runRetriesRow, standIns := [], harness := (true, "9b51003ce301e06462fed6995843e0de102e7963d4f3ec071b538736d18e9478"), looks := false }, kinds := [], alts := [], laidByText := true, laidKinds := [.data, .pinned], laidTests := true, laidLooks := .later }
def RunRetriesCardSaid : Prop := Claim7.holds Tryd.pinned (.plain (OpenSpec.ofChange runRetriesSpec)) runRetriesCard

/-- THE SECOND FORM's CARD OF 'outriderlaw16.RunKnown'. -/
def runKnownUptoCard : Claim7 := { stood := { row := runKnownUptoRow, standIns := [], harness := (true, "9b51003ce301e06462fed6995843e0de102e7963d4f3ec071b538736d18e9478"), looks := false }, kinds := [], alts := [], laidByText := true, laidKinds := [.data, .pinned], laidTests := true, laidLooks := .later }
def RunKnownUptoCardSaid : Prop := Claim7.holds Tryd.pinned (.plain (OpenSpec.upto runKnownSpec)) runKnownUptoCard

/-- THE SECOND FORM's CARD OF 'outriderlaw16.RunOrder'. -/
def runOrderUptoCard : Claim7 := { stood := { row := runOrderUptoRow, standIns := [], harness := (true, "9b51003ce301e06462fed6995843e0de102e7963d4f3ec071b538736d18e9478"), looks := false }, kinds := [], alts := [], laidByText := true, laidKinds := [.data, .pinned], laidTests := true, laidLooks := .later }
def RunOrderUptoCardSaid : Prop := Claim7.holds Tryd.pinned (.plain (OpenSpec.upto runOrderSpec)) runOrderUptoCard

/-- THE SECOND FORM's CARD OF 'outriderlaw16.RunEnds'. -/
def runEndsUptoCard : Claim7 := { stood := { row := runEndsUptoRow, standIns := [], harness := (true, "9b51003ce301e06462fed6995843e0de102e7963d4f3ec071b538736d18e9478"), looks := false }, kinds := [], alts := [], laidByText := true, laidKinds := [.data, .pinned], laidTests := true, laidLooks := .later }
def RunEndsUptoCardSaid : Prop := Claim7.holds Tryd.pinned (.plain (OpenSpec.upto runEndsSpec)) runEndsUptoCard

/-- THE SECOND FORM's CARD OF 'outriderlaw16.RunRetries'. -/
def runRetriesUptoCard : Claim7 := { stood := { row := runRetriesUptoRow, standIns := [], harness := (true, "9b51003ce301e06462fed6995843e0de102e7963d4f3ec071b538736d18e9478"), looks := false }, kinds := [], alts := [], laidByText := true, laidKinds := [.data, .pinned], laidTests := true, laidLooks := .later }
def RunRetriesUptoCardSaid : Prop := Claim7.holds Tryd.pinned (.plain (OpenSpec.upto runRetriesSpec)) runRetriesUptoCard
end Rows
end Go.Proofs.YtpaolgjgonghlaaDoor
