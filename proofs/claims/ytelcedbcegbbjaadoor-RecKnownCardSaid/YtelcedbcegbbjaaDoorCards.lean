/-
  DERIVED. GIVEN WITH THE SEED: THE CARDS: each row of YtelcedbcegbbjaaDoorRows.lean that lists a variable, with what it lists TIED to the program's text (the seventh form; the later family's looks); each row that meets fmt, with fmt's text TOLD by the authors' own Lean function (tested against real Go, not proved from fmt's source: count such statements apart). THE CARD IS WHAT COUNTS. Prove the row's statement (the work); the ties are given (YtelcedbcegbbjaaDoorTie.lean); close each card by the builder's one call (the guide's Derived/Test/ToyasCard.lean, 'card_holds'). Laid BY PROGRAM, IN A SANDBOX (cutbox-door.mjs). By AI agents, Wed Nov 11 2026. No macro, syntax, notation, axiom, sorry.
-/
import Derived.Test.YtelcedbcegbbjaaDoorRows
import GoSem.ClaimSeven
namespace Go.Proofs.YtelcedbcegbbjaaDoor
namespace Rows

/-- THE TIED CARD OF 'frankinglaw5.RecKnown'. -/
def recKnownCard : Claim7 := { stood := { row := recKnownRow, standIns := [], harness := (true, "b0603a89ef5e455f36a793a941576894e39626101408f9cd491bd1e1b25bc985"), looks := false }, kinds := [], alts := [], laidByText := true, laidKinds := [.data], laidTests := true, laidLooks := .later }
def RecKnownCardSaid : Prop := Claim7.holds Tryd.pinned (.plain (OpenSpec.ofChange recKnownSpec)) recKnownCard

/-- THE TIED CARD OF 'frankinglaw5.RecSays'. -/
def recSaysCard : Claim7 := { stood := { row := recSaysRow, standIns := [], harness := (true, "b0603a89ef5e455f36a793a941576894e39626101408f9cd491bd1e1b25bc985"), looks := false }, kinds := [], alts := [], laidByText := true, laidKinds := [.data], laidTests := true, laidLooks := .later }
def RecSaysCardSaid : Prop := Claim7.holds Tryd.pinned (.plain (OpenSpec.ofChange recSaysSpec)) recSaysCard

/-- THE TIED CARD OF 'frankinglaw5.RecBack'. -/
def recBackCard : Claim7 := { stood := { row := recBackRow, standIns := [], harness := (true, "b0603a89ef5e455f36a793a941576894e39626101408f9cd491bd1e1b25bc985"), looks := false }, kinds := [], alts := [], laidByText := true, laidKinds := [.data], laidTests := true, laidLooks := .later }
def RecBackCardSaid : Prop := Claim7.holds Tryd.pinned (.plain (OpenSpec.ofChange recBackSpec)) recBackCard

/-- THE TIED CARD OF 'frankinglaw5.RecTurned'. -/
def recTurnedCard : Claim7 := { stood := { row := recTurnedRow, standIns := [], harness := (true, "b0603a89ef5e455f36a793a941576894e39626101408f9cd491bd1e1b25bc985"), looks := false }, kinds := [], alts := [], laidByText := true, laidKinds := [.data], laidTests := true, laidLooks := .later }
def RecTurnedCardSaid : Prop := Claim7.holds Tryd.pinned (.plain (OpenSpec.ofChange recTurnedSpec)) recTurnedCard

/-- THE SECOND FORM's CARD OF 'frankinglaw5.RecKnown'. -/
def recKnownUptoCard : Claim7 := { stood := { row := recKnownUptoRow, standIns := [], harness := (true, "b0603a89ef5e455f36a793a941576894e39626101408f9cd491bd1e1b25bc985"), looks := false }, kinds := [], alts := [], laidByText := true, laidKinds := [.data], laidTests := true, laidLooks := .later }
def RecKnownUptoCardSaid : Prop := Claim7.holds Tryd.pinned (.plain (OpenSpec.upto recKnownSpec)) recKnownUptoCard

/-- THE SECOND FORM's CARD OF 'frankinglaw5.RecSays'. -/
def recSaysUptoCard : Claim7 := { stood := { row := recSaysUptoRow, standIns := [], harness := (true, "b0603a89ef5e455f36a793a941576894e39626101408f9cd491bd1e1b25bc985"), looks := false }, kinds := [], alts := [], laidByText := true, laidKinds := [.data], laidTests := true, laidLooks := .later }
def RecSaysUptoCardSaid : Prop := Claim7.holds Tryd.pinned (.plain (OpenSpec.upto recSaysSpec)) recSaysUptoCard

/-- THE SECOND FORM's CARD OF 'frankinglaw5.RecBack'. -/
def recBackUptoCard : Claim7 := { stood := { row := recBackUptoRow, standIns := [], harness := (true, "b0603a89ef5e455f36a793a941576894e39626101408f9cd491bd1e1b25bc985"), looks := false }, kinds := [], alts := [], laidByText := true, laidKinds := [.data], laidTests := true, laidLooks := .later }
def RecBackUptoCardSaid : Prop := Claim7.holds Tryd.pinned (.plain (OpenSpec.upto recBackSpec)) recBackUptoCard

/-- THE SECOND FORM's CARD OF 'frankinglaw5.RecTurned'. -/
def recTurnedUptoCard : Claim7 := { stood := { row := recTurnedUptoRow, standIns := [], harness := (true, "b0603a89ef5e455f36a793a941576894e39626101408f9cd491bd1e1b25bc985"), looks := false }, kinds := [], alts := [], laidByText := true, laidKinds := [.data], laidTests := true, laidLooks := .later }
def RecTurnedUptoCardSaid : Prop := Claim7.holds Tryd.pinned (.plain (OpenSpec.upto recTurnedSpec)) recTurnedUptoCard
end Rows
end Go.Proofs.YtelcedbcegbbjaaDoor
