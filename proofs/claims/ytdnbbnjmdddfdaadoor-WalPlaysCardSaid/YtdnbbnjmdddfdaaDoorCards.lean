/-
  DERIVED. GIVEN WITH THE SEED: THE CARDS: each row of YtdnbbnjmdddfdaaDoorRows.lean that lists a variable, with what it lists TIED to the program's text (the seventh form; the later family's looks); each row that meets fmt, with fmt's text TOLD by the authors' own Lean function (tested against real Go, not proved from fmt's source: count such statements apart). THE CARD IS WHAT COUNTS. Prove the row's statement (the work); the ties are given (YtdnbbnjmdddfdaaDoorTie.lean); close each card by the builder's one call (the guide's Derived/Test/ToyasCard.lean, 'card_holds'). Laid BY PROGRAM, IN A SANDBOX (cutbox-door.mjs). By AI agents, Wed Nov 11 2026. No macro, syntax, notation, axiom, sorry.
-/
import Derived.Test.YtdnbbnjmdddfdaaDoorRows
import GoSem.ClaimSeven
namespace Go.Proofs.YtdnbbnjmdddfdaaDoor
namespace Rows

/-- THE TIED CARD OF 'frankinglaw5.RecKnown'. -/
def recKnownCard : Claim7 := { stood := { row := recKnownRow, standIns := [], harness := (true, "78a07a278f77ad9b0f047f89437909d91af67046da2177b37957abe0de4c84d6"), looks := false }, kinds := [], alts := [], laidByText := true, laidKinds := [.data], laidTests := true, laidLooks := .later }
def RecKnownCardSaid : Prop := Claim7.holds Tryd.pinned (.plain (OpenSpec.ofChange recKnownSpec)) recKnownCard

/-- THE TIED CARD OF 'frankinglaw5.RecSays'. -/
def recSaysCard : Claim7 := { stood := { row := recSaysRow, standIns := [], harness := (true, "78a07a278f77ad9b0f047f89437909d91af67046da2177b37957abe0de4c84d6"), looks := false }, kinds := [], alts := [], laidByText := true, laidKinds := [.data], laidTests := true, laidLooks := .later }
def RecSaysCardSaid : Prop := Claim7.holds Tryd.pinned (.plain (OpenSpec.ofChange recSaysSpec)) recSaysCard

/-- THE TIED CARD OF 'frankinglaw5.RecBack'. -/
def recBackCard : Claim7 := { stood := { row := recBackRow, standIns := [], harness := (true, "78a07a278f77ad9b0f047f89437909d91af67046da2177b37957abe0de4c84d6"), looks := false }, kinds := [], alts := [], laidByText := true, laidKinds := [.data], laidTests := true, laidLooks := .later }
def RecBackCardSaid : Prop := Claim7.holds Tryd.pinned (.plain (OpenSpec.ofChange recBackSpec)) recBackCard

/-- THE TIED CARD OF 'frankinglaw5.RecTurned'. -/
def recTurnedCard : Claim7 := { stood := { row := recTurnedRow, standIns := [], harness := (true, "78a07a278f77ad9b0f047f89437909d91af67046da2177b37957abe0de4c84d6"), looks := false }, kinds := [], alts := [], laidByText := true, laidKinds := [.data], laidTests := true, laidLooks := .later }
def RecTurnedCardSaid : Prop := Claim7.holds Tryd.pinned (.plain (OpenSpec.ofChange recTurnedSpec)) recTurnedCard

/-- THE TIED CARD OF 'frankinglaw6.WalKnown'. -/
def walKnownCard : Claim7 := { stood := { row := walKnownRow, standIns := [], harness := (true, "78a07a278f77ad9b0f047f89437909d91af67046da2177b37957abe0de4c84d6"), looks := false }, kinds := [], alts := [], laidByText := true, laidKinds := [.data], laidTests := true, laidLooks := .later }
def WalKnownCardSaid : Prop := Claim7.holds Tryd.pinned (.plain (OpenSpec.ofChange walKnownSpec)) walKnownCard

/-- THE TIED CARD OF 'frankinglaw6.WalPlays'. -/
def walPlaysCard : Claim7 := { stood := { row := walPlaysRow, standIns := [], harness := (true, "78a07a278f77ad9b0f047f89437909d91af67046da2177b37957abe0de4c84d6"), looks := false }, kinds := [], alts := [], laidByText := true, laidKinds := [.data], laidTests := true, laidLooks := .later }
def WalPlaysCardSaid : Prop := Claim7.holds Tryd.pinned (.plain (OpenSpec.ofChange walPlaysSpec)) walPlaysCard

/-- THE TIED CARD OF 'frankinglaw6.WalAgain'. -/
def walAgainCard : Claim7 := { stood := { row := walAgainRow, standIns := [], harness := (true, "78a07a278f77ad9b0f047f89437909d91af67046da2177b37957abe0de4c84d6"), looks := false }, kinds := [], alts := [], laidByText := true, laidKinds := [.data], laidTests := true, laidLooks := .later }
def WalAgainCardSaid : Prop := Claim7.holds Tryd.pinned (.plain (OpenSpec.ofChange walAgainSpec)) walAgainCard

/-- THE SECOND FORM's CARD OF 'frankinglaw5.RecKnown'. -/
def recKnownUptoCard : Claim7 := { stood := { row := recKnownUptoRow, standIns := [], harness := (true, "78a07a278f77ad9b0f047f89437909d91af67046da2177b37957abe0de4c84d6"), looks := false }, kinds := [], alts := [], laidByText := true, laidKinds := [.data], laidTests := true, laidLooks := .later }
def RecKnownUptoCardSaid : Prop := Claim7.holds Tryd.pinned (.plain (OpenSpec.upto recKnownSpec)) recKnownUptoCard

/-- THE SECOND FORM's CARD OF 'frankinglaw5.RecSays'. -/
def recSaysUptoCard : Claim7 := { stood := { row := recSaysUptoRow, standIns := [], harness := (true, "78a07a278f77ad9b0f047f89437909d91af67046da2177b37957abe0de4c84d6"), looks := false }, kinds := [], alts := [], laidByText := true, laidKinds := [.data], laidTests := true, laidLooks := .later }
def RecSaysUptoCardSaid : Prop := Claim7.holds Tryd.pinned (.plain (OpenSpec.upto recSaysSpec)) recSaysUptoCard

/-- THE SECOND FORM's CARD OF 'frankinglaw5.RecBack'. -/
def recBackUptoCard : Claim7 := { stood := { row := recBackUptoRow, standIns := [], harness := (true, "78a07a278f77ad9b0f047f89437909d91af67046da2177b37957abe0de4c84d6"), looks := false }, kinds := [], alts := [], laidByText := true, laidKinds := [.data], laidTests := true, laidLooks := .later }
def RecBackUptoCardSaid : Prop := Claim7.holds Tryd.pinned (.plain (OpenSpec.upto recBackSpec)) recBackUptoCard

/-- THE SECOND FORM's CARD OF 'frankinglaw5.RecTurned'. -/
def recTurnedUptoCard : Claim7 := { stood := { row := recTurnedUptoRow, standIns := [], harness := (true, "78a07a278f77ad9b0f047f89437909d91af67046da2177b37957abe0de4c84d6"), looks := false }, kinds := [], alts := [], laidByText := true, laidKinds := [.data], laidTests := true, laidLooks := .later }
def RecTurnedUptoCardSaid : Prop := Claim7.holds Tryd.pinned (.plain (OpenSpec.upto recTurnedSpec)) recTurnedUptoCard

/-- THE SECOND FORM's CARD OF 'frankinglaw6.WalKnown'. -/
def walKnownUptoCard : Claim7 := { stood := { row := walKnownUptoRow, standIns := [], harness := (true, "78a07a278f77ad9b0f047f89437909d91af67046da2177b37957abe0de4c84d6"), looks := false }, kinds := [], alts := [], laidByText := true, laidKinds := [.data], laidTests := true, laidLooks := .later }
def WalKnownUptoCardSaid : Prop := Claim7.holds Tryd.pinned (.plain (OpenSpec.upto walKnownSpec)) walKnownUptoCard

/-- THE SECOND FORM's CARD OF 'frankinglaw6.WalPlays'. -/
def walPlaysUptoCard : Claim7 := { stood := { row := walPlaysUptoRow, standIns := [], harness := (true, "78a07a278f77ad9b0f047f89437909d91af67046da2177b37957abe0de4c84d6"), looks := false }, kinds := [], alts := [], laidByText := true, laidKinds := [.data], laidTests := true, laidLooks := .later }
def WalPlaysUptoCardSaid : Prop := Claim7.holds Tryd.pinned (.plain (OpenSpec.upto walPlaysSpec)) walPlaysUptoCard

/-- THE SECOND FORM's CARD OF 'frankinglaw6.WalAgain'. -/
def walAgainUptoCard : Claim7 := { stood := { row := walAgainUptoRow, standIns := [], harness := (true, "78a07a278f77ad9b0f047f89437909d91af67046da2177b37957abe0de4c84d6"), looks := false }, kinds := [], alts := [], laidByText := true, laidKinds := [.data], laidTests := true, laidLooks := .later }
def WalAgainUptoCardSaid : Prop := Claim7.holds Tryd.pinned (.plain (OpenSpec.upto walAgainSpec)) walAgainUptoCard
end Rows
end Go.Proofs.YtdnbbnjmdddfdaaDoor
