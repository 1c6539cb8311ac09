/-
  DERIVED. GIVEN WITH THE SEED: THE CARDS: each row of YtpjgacmcpbpklaaDoorRows.lean that lists a variable, with what it lists TIED to the program's text (the seventh form; the later family's looks); each row that meets fmt, with fmt's text TOLD by the authors' own Lean function (tested against real Go, not proved from fmt's source: count such statements apart). THE CARD IS WHAT COUNTS. Prove the row's statement (the work); the ties are given (YtpjgacmcpbpklaaDoorTie.lean); close each card by the builder's one call (the guide's Derived/Test/ToyasCard.lean, 'card_holds'). Laid BY PROGRAM, IN A SANDBOX (cutbox-door.mjs). By AI agents, Wed Nov 11 2026. No macro, syntax, notation, axiom, sorry.
-/
import Derived.Test.YtpjgacmcpbpklaaDoorRows
import GoSem.ClaimSeven
namespace Go.Proofs.YtpjgacmcpbpklaaDoor
namespace Rows

/-- THE TIED CARD OF 'frankinglaw8.Utf7Known'. -/
def utf7KnownCard : Claim7 := { stood := { row := utf7KnownRow, standIns := [], harness := (true, "8cb75ca0a89445e6b90bb6c2262f9546101c23a6409b088a7e5fd24df90d7b34"), looks := false }, kinds := [], alts := [], laidByText := true, laidKinds := [.data, .data, .data, .pinned, .pinned], laidTests := true, laidLooks := .later }
def Utf7KnownCardSaid : Prop := Claim7.holds Tryd.pinned (.plain (OpenSpec.ofChange utf7KnownSpec)) utf7KnownCard

/-- THE TIED CARD OF 'frankinglaw8.Utf7Says'. -/
def utf7SaysCard : Claim7 := { stood := { row := utf7SaysRow, standIns := [], harness := (true, "8cb75ca0a89445e6b90bb6c2262f9546101c23a6409b088a7e5fd24df90d7b34"), looks := false }, kinds := [], alts := [], laidByText := true, laidKinds := [.data, .data, .data, .pinned, .pinned], laidTests := true, laidLooks := .later }
def Utf7SaysCardSaid : Prop := Claim7.holds Tryd.pinned (.plain (OpenSpec.ofChange utf7SaysSpec)) utf7SaysCard

/-- THE TIED CARD OF 'frankinglaw8.Utf7Back'. -/
def utf7BackCard : Claim7 := { stood := { row := utf7BackRow, standIns := [], harness := (true, "8cb75ca0a89445e6b90bb6c2262f9546101c23a6409b088a7e5fd24df90d7b34"), looks := false }, kinds := [], alts := [], laidByText := true, laidKinds := [.data, .data, .data, .pinned, .pinned], laidTests := true, laidLooks := .later }
def Utf7BackCardSaid : Prop := Claim7.holds Tryd.pinned (.plain (OpenSpec.ofChange utf7BackSpec)) utf7BackCard

/-- THE TIED CARD OF 'frankinglaw8.Utf7Stars'. -/
def utf7StarsCard : Claim7 := { stood := { row := utf7StarsRow, standIns := [], harness := (true, "8cb75ca0a89445e6b90bb6c2262f9546101c23a6409b088a7e5fd24df90d7b34"), looks := false }, kinds := [], alts := [], laidByText := true, laidKinds := [.data, .data, .data, .pinned, .pinned], laidTests := true, laidLooks := .later }
def Utf7StarsCardSaid : Prop := Claim7.holds Tryd.pinned (.plain (OpenSpec.ofChange utf7StarsSpec)) utf7StarsCard

/-- THE TIED CARD OF 'frankinglaw8.Utf7Parents'. -/
def utf7ParentsCard : Claim7 := { stood := { row := utf7ParentsRow, standIns := [], harness := (true, "8cb75ca0a89445e6b90bb6c2262f9546101c23a6409b088a7e5fd24df90d7b34"), looks := false }, kinds := [], alts := [], laidByText := true, laidKinds := [.data, .data, .data, .pinned, .pinned], laidTests := true, laidLooks := .later }
def Utf7ParentsCardSaid : Prop := Claim7.holds Tryd.pinned (.plain (OpenSpec.ofChange utf7ParentsSpec)) utf7ParentsCard

/-- THE SECOND FORM's CARD OF 'frankinglaw8.Utf7Known'. -/
def utf7KnownUptoCard : Claim7 := { stood := { row := utf7KnownUptoRow, standIns := [], harness := (true, "8cb75ca0a89445e6b90bb6c2262f9546101c23a6409b088a7e5fd24df90d7b34"), looks := false }, kinds := [], alts := [], laidByText := true, laidKinds := [.data, .data, .data, .pinned, .pinned], laidTests := true, laidLooks := .later }
def Utf7KnownUptoCardSaid : Prop := Claim7.holds Tryd.pinned (.plain (OpenSpec.upto utf7KnownSpec)) utf7KnownUptoCard

/-- THE SECOND FORM's CARD OF 'frankinglaw8.Utf7Says'. -/
def utf7SaysUptoCard : Claim7 := { stood := { row := utf7SaysUptoRow, standIns := [], harness := (true, "8cb75ca0a89445e6b90bb6c2262f9546101c23a6409b088a7e5fd24df90d7b34"), looks := false }, kinds := [], alts := [], laidByText := true, laidKinds := [.data, .data, .data, .pinned, .pinned], laidTests := true, laidLooks := .later }
def Utf7SaysUptoCardSaid : Prop := Claim7.holds Tryd.pinned (.plain (OpenSpec.upto utf7SaysSpec)) utf7SaysUptoCard

/-- THE SECOND FORM's CARD OF 'frankinglaw8.Utf7Back'. -/
def utf7BackUptoCard : Claim7 := { stood := { row := utf7BackUptoRow, standIns := [], harness := (true, "8cb75ca0a89445e6b90bb6c2262f9546101c23a6409b088a7e5fd24df90d7b34"), looks := false }, kinds := [], alts := [], laidByText := true, laidKinds := [.data, .data, .data, .pinned, .pinned], laidTests := true, laidLooks := .later }
def Utf7BackUptoCardSaid : Prop := Claim7.holds Tryd.pinned (.plain (OpenSpec.upto utf7BackSpec)) utf7BackUptoCard

/-- THE SECOND FORM's CARD OF 'frankinglaw8.Utf7Stars'. -/
def utf7StarsUptoCard : Claim7 := { stood := { row := utf7StarsUptoRow, standIns := [], harness := (true, "8cb75ca0a89445e6b90bb6c2262f9546101c23a6409b088a7e5fd24df90d7b34"), looks := false }, kinds := [], alts := [], laidByText := true, laidKinds := [.data, .data, .data, .pinned, .pinned], laidTests := true, laidLooks := .later }
def Utf7StarsUptoCardSaid : Prop := Claim7.holds Tryd.pinned (.plain (OpenSpec.upto utf7StarsSpec)) utf7StarsUptoCard

/-- THE SECOND FORM's CARD OF 'frankinglaw8.Utf7Parents'. -/
def utf7ParentsUptoCard : Claim7 := { stood := { row := utf7ParentsUptoRow, standIns := [], harness := (true, "8cb75ca0a89445e6b90bb6c2262f9546101c23a6409b088a7e5fd24df90d7b34"), looks := false }, kinds := [], alts := [], laidByText := true, laidKinds := [.data, .data, .data, .pinned, .pinned], laidTests := true, laidLooks := .later }
def Utf7ParentsUptoCardSaid : Prop := Claim7.holds Tryd.pinned (.plain (OpenSpec.upto utf7ParentsSpec)) utf7ParentsUptoCard
end Rows
end Go.Proofs.YtpjgacmcpbpklaaDoor
