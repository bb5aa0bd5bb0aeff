/-
  DERIVED. GIVEN WITH THE SEED: THE CARDS: each row of YtgkfhcpegdlejaaDoorRows.lean that lists a variable, with what it lists TIED to the program's text (the seventh form; the later family's looks); each row that meets fmt, with fmt's text TOLD by the authors' own Lean function (tested against real Go, not proved from fmt's source: count such statements apart). THE CARD IS WHAT COUNTS. Prove the row's statement (the work); the ties are given (YtgkfhcpegdlejaaDoorTie.lean); close each card by the builder's one call (the guide's Derived/Test/ToyasCard.lean, 'card_holds'). Laid BY PROGRAM, IN A SANDBOX (cutbox-door.mjs). By AI agents, Wed Nov 11 2026. No macro, syntax, notation, axiom, sorry.
-/
import Derived.Test.YtgkfhcpegdlejaaDoorRows
import GoSem.ClaimSeven
namespace Go.Proofs.YtgkfhcpegdlejaaDoor
namespace Rows

/-- THE TIED CARD OF 'laws.FnTreeText'. -/
def fnTreeTextCard : Claim7 := { stood := { row := fnTreeTextRow, standIns := [], harness := (true, "9d6f0a76ebe1df9a4329eee491e198aad0c8214d924488e197d8943d7ece9a1b"), looks := true }, kinds := [], alts := [], laidByText := true, laidKinds := [.sentinel, .sentinel, .data], laidTests := true, laidLooks := .later }
def FnTreeTextCardSaid : Prop := Claim7.holds Tryd.pinned (.plain (OpenSpec.ofChange fnTreeTextSpec)) fnTreeTextCard

/-- THE TIED CARD OF 'laws.FnLayerText'. -/
def fnLayerTextCard : Claim7 := { stood := { row := fnLayerTextRow, standIns := [], harness := (true, "9d6f0a76ebe1df9a4329eee491e198aad0c8214d924488e197d8943d7ece9a1b"), looks := true }, kinds := [], alts := [], laidByText := true, laidKinds := [.data], laidTests := true, laidLooks := .later }
def FnLayerTextCardSaid : Prop := Claim7.holds Tryd.pinned (.plain (OpenSpec.ofChange fnLayerTextSpec)) fnLayerTextCard

/-- THE TIED CARD OF 'laws.FnOpText'. -/
def fnOpTextCard : Claim7 := { stood := { row := fnOpTextRow, standIns := [], harness := (true, "9d6f0a76ebe1df9a4329eee491e198aad0c8214d924488e197d8943d7ece9a1b"), looks := true }, kinds := [], alts := [], laidByText := true, laidKinds := [.data], laidTests := true, laidLooks := .later }
def FnOpTextCardSaid : Prop := Claim7.holds Tryd.pinned (.plain (OpenSpec.ofChange fnOpTextSpec)) fnOpTextCard

/-- THE TIED CARD OF 'laws.FnTextSame'. -/
def fnTextSameCard : Claim7 := { stood := { row := fnTextSameRow, standIns := [], harness := (true, "9d6f0a76ebe1df9a4329eee491e198aad0c8214d924488e197d8943d7ece9a1b"), looks := true }, kinds := [], alts := [], laidByText := true, laidKinds := [.data, .data], laidTests := true, laidLooks := .later }
def FnTextSameCardSaid : Prop := Claim7.holds Tryd.pinned (.plain (OpenSpec.ofChange fnTextSameSpec)) fnTextSameCard

/-- THE SECOND FORM's CARD OF 'laws.FnTreeText'. -/
def fnTreeTextUptoCard : Claim7 := { stood := { row := fnTreeTextUptoRow, standIns := [], harness := (true, "9d6f0a76ebe1df9a4329eee491e198aad0c8214d924488e197d8943d7ece9a1b"), looks := true }, kinds := [], alts := [], laidByText := true, laidKinds := [.sentinel, .sentinel, .data], laidTests := true, laidLooks := .later }
def FnTreeTextUptoCardSaid : Prop := Claim7.holds Tryd.pinned (.plain (OpenSpec.upto fnTreeTextSpec)) fnTreeTextUptoCard

/-- THE SECOND FORM's CARD OF 'laws.FnLayerText'. -/
def fnLayerTextUptoCard : Claim7 := { stood := { row := fnLayerTextUptoRow, standIns := [], harness := (true, "9d6f0a76ebe1df9a4329eee491e198aad0c8214d924488e197d8943d7ece9a1b"), looks := true }, kinds := [], alts := [], laidByText := true, laidKinds := [.data], laidTests := true, laidLooks := .later }
def FnLayerTextUptoCardSaid : Prop := Claim7.holds Tryd.pinned (.plain (OpenSpec.upto fnLayerTextSpec)) fnLayerTextUptoCard

/-- THE SECOND FORM's CARD OF 'laws.FnOpText'. -/
def fnOpTextUptoCard : Claim7 := { stood := { row := fnOpTextUptoRow, standIns := [], harness := (true, "9d6f0a76ebe1df9a4329eee491e198aad0c8214d924488e197d8943d7ece9a1b"), looks := true }, kinds := [], alts := [], laidByText := true, laidKinds := [.data], laidTests := true, laidLooks := .later }
def FnOpTextUptoCardSaid : Prop := Claim7.holds Tryd.pinned (.plain (OpenSpec.upto fnOpTextSpec)) fnOpTextUptoCard

/-- THE SECOND FORM's CARD OF 'laws.FnTextSame'. -/
def fnTextSameUptoCard : Claim7 := { stood := { row := fnTextSameUptoRow, standIns := [], harness := (true, "9d6f0a76ebe1df9a4329eee491e198aad0c8214d924488e197d8943d7ece9a1b"), looks := true }, kinds := [], alts := [], laidByText := true, laidKinds := [.data, .data], laidTests := true, laidLooks := .later }
def FnTextSameUptoCardSaid : Prop := Claim7.holds Tryd.pinned (.plain (OpenSpec.upto fnTextSameSpec)) fnTextSameUptoCard
end Rows
end Go.Proofs.YtgkfhcpegdlejaaDoor
