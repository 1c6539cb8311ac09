/-
  NARROWER THAN 'FOR EVERY INPUT', by the rows' own cells (each row's printed sentence says how): RecKnown: laid · RecSays: laid · RecBack: laid · RecTurned: laid · WalKnown: laid · WalPlays: laid · WalAgain: laid.
  DERIVED. THE GIVEN ROWS OF THIS SEAT. 7 by the template 'for every input the law returns true; each argument reads behind the call as it read before'; 0 by the template 'total and deterministic' (their statements: YtdnbbnjmdddfdaaDoorTotals.lean).
  GIVEN WITH THE SEED: the statements are not yours to turn. If you find one false, say at which input.
  Laid BY PROGRAM, IN A SANDBOX (cutbox-rows.mjs): the forced cells as the released guide's own fill.sh prints them over the translation 20e9b21fcc1e6436… (all of the seat's roots in one cut). By AI agents, Wed Nov 11 2026. No macro, syntax, notation, axiom, sorry.
-/
import Derived.Test.YtdnbbnjmdddfdaaDoorChecked
import GoSem.Claim
import GoSem.ClaimJoined
import GoSem.ClaimMapViews
import Derived.JoinedTies
import Derived.KernelRfl
namespace Go.Proofs.YtdnbbnjmdddfdaaDoor
/- THE CELL 'sum', in the pinned program and in every row, IS THE sha256 OF THE DUMP (.gsa) THAT YtdnbbnjmdddfdaaDoorProg.lean LOADS. Nothing in Lean hashes anything: it is a label: what it is worth is what the hold of that sum in a sandbox is worth. -/
noncomputable def Tryd.pinned : Pinned := { name := "ytdnbbnjmdddfdaadoor", sum := "20e9b21fcc1e64364bc7aa74caf189b4f3bd5a1571484bb3876e91fd8195f30a", checked := Tryd.checked }
namespace Rows
def none {H : Type} : Left H := { results := [], args := [] }

/- WHAT THE LISTED PACKAGE-LEVEL VARIABLES READ AS WHEN THE CALL BEGINS. Each datum BY PROGRAM (the guide's laid-datum.mjs) off the statement by which the dump's own 'gosem.cut.vars' lays the variable. In a bare row this is a premise. The card (YtdnbbnjmdddfdaaDoorCards.lean) ties it to the program's text. -/
def laid_franking_crc_halfByte {H : Type} : DataW H := .agg [.lit (.int .u32 0), .lit (.int .u32 498536548), .lit (.int .u32 997073096), .lit (.int .u32 651767980), .lit (.int .u32 1994146192), .lit (.int .u32 1802195444), .lit (.int .u32 1303535960), .lit (.int .u32 1342533948), .lit (.int .u32 3988292384), .lit (.int .u32 4027552580), .lit (.int .u32 3604390888), .lit (.int .u32 3412177804), .lit (.int .u32 2607071920), .lit (.int .u32 2262029012), .lit (.int .u32 2685067896), .lit (.int .u32 3183342108)]

/-- 'frankinglaw5.RecKnown': WHATEVER THE INPUT: true; the input reads as it did. -/
def recKnownSpec : ChangeSpec := { name := "recKnown", fn := fun _ => fun
  | [] => { results := [.lit (.bool true)], args := [] }
  | _ => none }
def recKnownRow : OpenClaim := { program := "ytdnbbnjmdddfdaadoor", sum := "20e9b21fcc1e64364bc7aa74caf189b4f3bd5a1571484bb3876e91fd8195f30a", func := "franking/frankinglaw5.RecKnown", spec := "recKnown", named := ["franking/crc.halfByte"], apart := false, laid := [("franking/crc.halfByte", laid_franking_crc_halfByte)] }
def RecKnownSaid : Prop := recKnownRow.holds Tryd.pinned (OpenSpec.ofChange recKnownSpec)

/-- ITS FALSE NEIGHBOUR: 'it returns false'. Refute it at one input. -/
def recKnownWrong : ChangeSpec := { name := "recKnown", fn := fun _ => fun
  | [] => { results := [.lit (.bool false)], args := [] }
  | _ => none }
def RecKnownWrongFalsely : Prop := recKnownRow.holds Tryd.pinned (OpenSpec.ofChange recKnownWrong)

/-- 'frankinglaw5.RecSays': WHATEVER THE INPUT: true; the input reads as it did. -/
def recSaysSpec : ChangeSpec := { name := "recSays", fn := fun _ => fun
  | [d1, d2, d3] => { results := [.lit (.bool true)], args := [d1, d2, d3] }
  | _ => none }
def recSaysRow : OpenClaim := { program := "ytdnbbnjmdddfdaadoor", sum := "20e9b21fcc1e64364bc7aa74caf189b4f3bd5a1571484bb3876e91fd8195f30a", func := "franking/frankinglaw5.RecSays", spec := "recSays", named := ["franking/crc.halfByte"], apart := false, laid := [("franking/crc.halfByte", laid_franking_crc_halfByte)] }
def RecSaysSaid : Prop := recSaysRow.holds Tryd.pinned (OpenSpec.ofChange recSaysSpec)

/-- ITS FALSE NEIGHBOUR: 'it returns false'. Refute it at one input. -/
def recSaysWrong : ChangeSpec := { name := "recSays", fn := fun _ => fun
  | [d1, d2, d3] => { results := [.lit (.bool false)], args := [d1, d2, d3] }
  | _ => none }
def RecSaysWrongFalsely : Prop := recSaysRow.holds Tryd.pinned (OpenSpec.ofChange recSaysWrong)

/-- 'frankinglaw5.RecBack': WHATEVER THE INPUT: true; the input reads as it did. -/
def recBackSpec : ChangeSpec := { name := "recBack", fn := fun _ => fun
  | [d1, d2, d3] => { results := [.lit (.bool true)], args := [d1, d2, d3] }
  | _ => none }
def recBackRow : OpenClaim := { program := "ytdnbbnjmdddfdaadoor", sum := "20e9b21fcc1e64364bc7aa74caf189b4f3bd5a1571484bb3876e91fd8195f30a", func := "franking/frankinglaw5.RecBack", spec := "recBack", named := ["franking/crc.halfByte"], apart := false, laid := [("franking/crc.halfByte", laid_franking_crc_halfByte)] }
def RecBackSaid : Prop := recBackRow.holds Tryd.pinned (OpenSpec.ofChange recBackSpec)

/-- ITS FALSE NEIGHBOUR: 'it returns false'. Refute it at one input. -/
def recBackWrong : ChangeSpec := { name := "recBack", fn := fun _ => fun
  | [d1, d2, d3] => { results := [.lit (.bool false)], args := [d1, d2, d3] }
  | _ => none }
def RecBackWrongFalsely : Prop := recBackRow.holds Tryd.pinned (OpenSpec.ofChange recBackWrong)

/-- 'frankinglaw5.RecTurned': WHATEVER THE INPUT: true; the input reads as it did. -/
def recTurnedSpec : ChangeSpec := { name := "recTurned", fn := fun _ => fun
  | [d1, d2, d3] => { results := [.lit (.bool true)], args := [d1, d2, d3] }
  | _ => none }
def recTurnedRow : OpenClaim := { program := "ytdnbbnjmdddfdaadoor", sum := "20e9b21fcc1e64364bc7aa74caf189b4f3bd5a1571484bb3876e91fd8195f30a", func := "franking/frankinglaw5.RecTurned", spec := "recTurned", named := ["franking/crc.halfByte"], apart := false, laid := [("franking/crc.halfByte", laid_franking_crc_halfByte)] }
def RecTurnedSaid : Prop := recTurnedRow.holds Tryd.pinned (OpenSpec.ofChange recTurnedSpec)

/-- ITS FALSE NEIGHBOUR: 'it returns false'. Refute it at one input. -/
def recTurnedWrong : ChangeSpec := { name := "recTurned", fn := fun _ => fun
  | [d1, d2, d3] => { results := [.lit (.bool false)], args := [d1, d2, d3] }
  | _ => none }
def RecTurnedWrongFalsely : Prop := recTurnedRow.holds Tryd.pinned (OpenSpec.ofChange recTurnedWrong)

/-- 'frankinglaw6.WalKnown': WHATEVER THE INPUT: true; the input reads as it did. -/
def walKnownSpec : ChangeSpec := { name := "walKnown", fn := fun _ => fun
  | [] => { results := [.lit (.bool true)], args := [] }
  | _ => none }
def walKnownRow : OpenClaim := { program := "ytdnbbnjmdddfdaadoor", sum := "20e9b21fcc1e64364bc7aa74caf189b4f3bd5a1571484bb3876e91fd8195f30a", func := "franking/frankinglaw6.WalKnown", spec := "walKnown", named := ["franking/crc.halfByte"], apart := false, laid := [("franking/crc.halfByte", laid_franking_crc_halfByte)] }
def WalKnownSaid : Prop := walKnownRow.holds Tryd.pinned (OpenSpec.ofChange walKnownSpec)

/-- ITS FALSE NEIGHBOUR: 'it returns false'. Refute it at one input. -/
def walKnownWrong : ChangeSpec := { name := "walKnown", fn := fun _ => fun
  | [] => { results := [.lit (.bool false)], args := [] }
  | _ => none }
def WalKnownWrongFalsely : Prop := walKnownRow.holds Tryd.pinned (OpenSpec.ofChange walKnownWrong)

/-- 'frankinglaw6.WalPlays': WHATEVER THE INPUT: true; the input reads as it did. -/
def walPlaysSpec : ChangeSpec := { name := "walPlays", fn := fun _ => fun
  | [d1, d2] => { results := [.lit (.bool true)], args := [d1, d2] }
  | _ => none }
def walPlaysRow : OpenClaim := { program := "ytdnbbnjmdddfdaadoor", sum := "20e9b21fcc1e64364bc7aa74caf189b4f3bd5a1571484bb3876e91fd8195f30a", func := "franking/frankinglaw6.WalPlays", spec := "walPlays", named := ["franking/crc.halfByte"], apart := false, laid := [("franking/crc.halfByte", laid_franking_crc_halfByte)] }
def WalPlaysSaid : Prop := walPlaysRow.holds Tryd.pinned (OpenSpec.ofChange walPlaysSpec)

/-- ITS FALSE NEIGHBOUR: 'it returns false'. Refute it at one input. -/
def walPlaysWrong : ChangeSpec := { name := "walPlays", fn := fun _ => fun
  | [d1, d2] => { results := [.lit (.bool false)], args := [d1, d2] }
  | _ => none }
def WalPlaysWrongFalsely : Prop := walPlaysRow.holds Tryd.pinned (OpenSpec.ofChange walPlaysWrong)

/-- 'frankinglaw6.WalAgain': WHATEVER THE INPUT: true; the input reads as it did. -/
def walAgainSpec : ChangeSpec := { name := "walAgain", fn := fun _ => fun
  | [d1, d2, d3, d4] => { results := [.lit (.bool true)], args := [d1, d2, d3, d4] }
  | _ => none }
def walAgainRow : OpenClaim := { program := "ytdnbbnjmdddfdaadoor", sum := "20e9b21fcc1e64364bc7aa74caf189b4f3bd5a1571484bb3876e91fd8195f30a", func := "franking/frankinglaw6.WalAgain", spec := "walAgain", named := ["franking/crc.halfByte"], apart := false, laid := [("franking/crc.halfByte", laid_franking_crc_halfByte)] }
def WalAgainSaid : Prop := walAgainRow.holds Tryd.pinned (OpenSpec.ofChange walAgainSpec)

/-- ITS FALSE NEIGHBOUR: 'it returns false'. Refute it at one input. -/
def walAgainWrong : ChangeSpec := { name := "walAgain", fn := fun _ => fun
  | [d1, d2, d3, d4] => { results := [.lit (.bool false)], args := [d1, d2, d3, d4] }
  | _ => none }
def WalAgainWrongFalsely : Prop := walAgainRow.holds Tryd.pinned (OpenSpec.ofChange walAgainWrong)

/- THE SECOND FORM. 'bulk': how many values and letters a reading holds, each counted each time it is reached (what is shared counts as often as it is met; a slice's spare places count too). A statement '..UptoSaid' is the law's where the arguments, and the package variables that the reading takes, are together of bulk at most 1048576: NARROWER than '..Said'. Prove '..Said' where nothing that the law and all that it calls make is longer than what came in: it says more and counts as full. Else prove '..UptoSaid'. A law counts once. -/
mutual
def uptoBulk {H : Type} : DataW H → Nat
  | .lit (.string bytes) => bytes.length + 1
  | .lit _ => 1
  | .nil => 1
  | .ptr d => uptoBulk d + 1
  | .slice elems spare => uptoBulkAll elems + uptoBulkAll spare + 1
  | .agg parts => uptoBulkAll parts + 1
  | .iface _ d => uptoBulk d + 1
  | .map entries => uptoBulkEntries entries + 1
  | .held _ => 1
def uptoBulkAll {H : Type} : List (DataW H) → Nat
  | [] => 0
  | d :: r => uptoBulk d + uptoBulkAll r
def uptoBulkEntries {H : Type} : List (Lit × DataW H) → Nat
  | [] => 0
  | x :: r => uptoBulkEntry x + uptoBulkEntries r
def uptoBulkEntry {H : Type} : Lit × DataW H → Nat
  | (.string bytes, d) => bytes.length + uptoBulk d + 1
  | (_, d) => uptoBulk d + 1
 end
def uptoSmall : (H : Type) → List (DataW H) → Bool := fun _ ds => decide (uptoBulkAll ds ≤ 1048576)
def OpenSpec.upto (s : _root_.Go.ChangeSpec) : _root_.Go.OpenSpec := { _root_.Go.OpenSpec.ofChange s with cond := some uptoSmall }

/-- 'frankinglaw5.RecKnown', WHERE WHAT IT READS IS OF BULK AT MOST 1048576: true; the input reads as it did. -/
def recKnownUptoRow : OpenClaim := { program := "ytdnbbnjmdddfdaadoor", sum := "20e9b21fcc1e64364bc7aa74caf189b4f3bd5a1571484bb3876e91fd8195f30a", func := "franking/frankinglaw5.RecKnown", spec := "recKnown", named := ["franking/crc.halfByte"], apart := false, laid := [("franking/crc.halfByte", laid_franking_crc_halfByte)], narrowed := true }
def RecKnownUptoSaid : Prop := recKnownUptoRow.holds Tryd.pinned (OpenSpec.upto recKnownSpec)

/-- 'frankinglaw5.RecSays', WHERE WHAT IT READS IS OF BULK AT MOST 1048576: true; the input reads as it did. -/
def recSaysUptoRow : OpenClaim := { program := "ytdnbbnjmdddfdaadoor", sum := "20e9b21fcc1e64364bc7aa74caf189b4f3bd5a1571484bb3876e91fd8195f30a", func := "franking/frankinglaw5.RecSays", spec := "recSays", named := ["franking/crc.halfByte"], apart := false, laid := [("franking/crc.halfByte", laid_franking_crc_halfByte)], narrowed := true }
def RecSaysUptoSaid : Prop := recSaysUptoRow.holds Tryd.pinned (OpenSpec.upto recSaysSpec)

/-- 'frankinglaw5.RecBack', WHERE WHAT IT READS IS OF BULK AT MOST 1048576: true; the input reads as it did. -/
def recBackUptoRow : OpenClaim := { program := "ytdnbbnjmdddfdaadoor", sum := "20e9b21fcc1e64364bc7aa74caf189b4f3bd5a1571484bb3876e91fd8195f30a", func := "franking/frankinglaw5.RecBack", spec := "recBack", named := ["franking/crc.halfByte"], apart := false, laid := [("franking/crc.halfByte", laid_franking_crc_halfByte)], narrowed := true }
def RecBackUptoSaid : Prop := recBackUptoRow.holds Tryd.pinned (OpenSpec.upto recBackSpec)

/-- 'frankinglaw5.RecTurned', WHERE WHAT IT READS IS OF BULK AT MOST 1048576: true; the input reads as it did. -/
def recTurnedUptoRow : OpenClaim := { program := "ytdnbbnjmdddfdaadoor", sum := "20e9b21fcc1e64364bc7aa74caf189b4f3bd5a1571484bb3876e91fd8195f30a", func := "franking/frankinglaw5.RecTurned", spec := "recTurned", named := ["franking/crc.halfByte"], apart := false, laid := [("franking/crc.halfByte", laid_franking_crc_halfByte)], narrowed := true }
def RecTurnedUptoSaid : Prop := recTurnedUptoRow.holds Tryd.pinned (OpenSpec.upto recTurnedSpec)

/-- 'frankinglaw6.WalKnown', WHERE WHAT IT READS IS OF BULK AT MOST 1048576: true; the input reads as it did. -/
def walKnownUptoRow : OpenClaim := { program := "ytdnbbnjmdddfdaadoor", sum := "20e9b21fcc1e64364bc7aa74caf189b4f3bd5a1571484bb3876e91fd8195f30a", func := "franking/frankinglaw6.WalKnown", spec := "walKnown", named := ["franking/crc.halfByte"], apart := false, laid := [("franking/crc.halfByte", laid_franking_crc_halfByte)], narrowed := true }
def WalKnownUptoSaid : Prop := walKnownUptoRow.holds Tryd.pinned (OpenSpec.upto walKnownSpec)

/-- 'frankinglaw6.WalPlays', WHERE WHAT IT READS IS OF BULK AT MOST 1048576: true; the input reads as it did. -/
def walPlaysUptoRow : OpenClaim := { program := "ytdnbbnjmdddfdaadoor", sum := "20e9b21fcc1e64364bc7aa74caf189b4f3bd5a1571484bb3876e91fd8195f30a", func := "franking/frankinglaw6.WalPlays", spec := "walPlays", named := ["franking/crc.halfByte"], apart := false, laid := [("franking/crc.halfByte", laid_franking_crc_halfByte)], narrowed := true }
def WalPlaysUptoSaid : Prop := walPlaysUptoRow.holds Tryd.pinned (OpenSpec.upto walPlaysSpec)

/-- 'frankinglaw6.WalAgain', WHERE WHAT IT READS IS OF BULK AT MOST 1048576: true; the input reads as it did. -/
def walAgainUptoRow : OpenClaim := { program := "ytdnbbnjmdddfdaadoor", sum := "20e9b21fcc1e64364bc7aa74caf189b4f3bd5a1571484bb3876e91fd8195f30a", func := "franking/frankinglaw6.WalAgain", spec := "walAgain", named := ["franking/crc.halfByte"], apart := false, laid := [("franking/crc.halfByte", laid_franking_crc_halfByte)], narrowed := true }
def WalAgainUptoSaid : Prop := walAgainUptoRow.holds Tryd.pinned (OpenSpec.upto walAgainSpec)

end Rows
end Go.Proofs.YtdnbbnjmdddfdaaDoor
