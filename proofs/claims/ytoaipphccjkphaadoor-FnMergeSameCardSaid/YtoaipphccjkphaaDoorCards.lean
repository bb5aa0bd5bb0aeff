/-
  DERIVED. GIVEN WITH THE SEED: THE CARDS: each row of YtoaipphccjkphaaDoorRows.lean that lists a variable, with what it lists TIED to the program's text (the seventh form; the later family's looks); each row that meets fmt, with fmt's text TOLD by the authors' own Lean function (tested against real Go, not proved from fmt's source: count such statements apart). THE CARD IS WHAT COUNTS. Prove the row's statement (the work); the ties are given (YtoaipphccjkphaaDoorTie.lean); close each card by the builder's one call (the guide's Derived/Test/ToyasCard.lean, 'card_holds'). Laid BY PROGRAM, IN A SANDBOX (cutbox-door.mjs). By AI agents, Wed Nov 11 2026. No macro, syntax, notation, axiom, sorry.
-/
import Derived.Test.YtoaipphccjkphaaDoorRows
import GoSem.ClaimSeven
namespace Go.Proofs.YtoaipphccjkphaaDoor
namespace Rows

/-- THE TIED CARD OF 'laws.FnMergeAt'. -/
def fnMergeAtCard : Claim7 := { stood := { row := fnMergeAtRow, standIns := [], harness := (true, "394e74b608ff754551f8bfc4f6667491ed442972439b3afb947562fb6de5053a"), looks := true }, kinds := [], alts := [], laidByText := true, laidKinds := [.sentinel, .sentinel], laidTests := true, laidLooks := .later }
def FnMergeAtCardSaid : Prop := Claim7.holds Tryd.pinned (.plain (OpenSpec.ofChange fnMergeAtSpec)) fnMergeAtCard

/-- THE TIED CARD OF 'laws.FnMergeTurn'. -/
def fnMergeTurnCard : Claim7 := { stood := { row := fnMergeTurnRow, standIns := [], harness := (true, "394e74b608ff754551f8bfc4f6667491ed442972439b3afb947562fb6de5053a"), looks := true }, kinds := [], alts := [], laidByText := true, laidKinds := [.sentinel, .sentinel, .sentinel], laidTests := true, laidLooks := .later }
def FnMergeTurnCardSaid : Prop := Claim7.holds Tryd.pinned (.plain (OpenSpec.ofChange fnMergeTurnSpec)) fnMergeTurnCard

/-- THE TIED CARD OF 'laws.FnMergeSame'. -/
def fnMergeSameCard : Claim7 := { stood := { row := fnMergeSameRow, standIns := [], harness := (true, "394e74b608ff754551f8bfc4f6667491ed442972439b3afb947562fb6de5053a"), looks := true }, kinds := [], alts := [], laidByText := true, laidKinds := [.sentinel, .sentinel, .sentinel], laidTests := true, laidLooks := .later }
def FnMergeSameCardSaid : Prop := Claim7.holds Tryd.pinned (.plain (OpenSpec.ofChange fnMergeSameSpec)) fnMergeSameCard

/-- THE TIED CARD OF 'laws.FnMergeMore'. -/
def fnMergeMoreCard : Claim7 := { stood := { row := fnMergeMoreRow, standIns := [], harness := (true, "394e74b608ff754551f8bfc4f6667491ed442972439b3afb947562fb6de5053a"), looks := true }, kinds := [], alts := [], laidByText := true, laidKinds := [.sentinel, .sentinel, .sentinel], laidTests := true, laidLooks := .later }
def FnMergeMoreCardSaid : Prop := Claim7.holds Tryd.pinned (.plain (OpenSpec.ofChange fnMergeMoreSpec)) fnMergeMoreCard

/-- THE SECOND FORM's CARD OF 'laws.FnMergeAt'. -/
def fnMergeAtUptoCard : Claim7 := { stood := { row := fnMergeAtUptoRow, standIns := [], harness := (true, "394e74b608ff754551f8bfc4f6667491ed442972439b3afb947562fb6de5053a"), looks := true }, kinds := [], alts := [], laidByText := true, laidKinds := [.sentinel, .sentinel], laidTests := true, laidLooks := .later }
def FnMergeAtUptoCardSaid : Prop := Claim7.holds Tryd.pinned (.plain (OpenSpec.upto fnMergeAtSpec)) fnMergeAtUptoCard

/-- THE SECOND FORM's CARD OF 'laws.FnMergeTurn'. -/
def fnMergeTurnUptoCard : Claim7 := { stood := { row := fnMergeTurnUptoRow, standIns := [], harness := (true, "394e74b608ff754551f8bfc4f6667491ed442972439b3afb947562fb6de5053a"), looks := true }, kinds := [], alts := [], laidByText := true, laidKinds := [.sentinel, .sentinel, .sentinel], laidTests := true, laidLooks := .later }
def FnMergeTurnUptoCardSaid : Prop := Claim7.holds Tryd.pinned (.plain (OpenSpec.upto fnMergeTurnSpec)) fnMergeTurnUptoCard

/-- THE SECOND FORM's CARD OF 'laws.FnMergeSame'. -/
def fnMergeSameUptoCard : Claim7 := { stood := { row := fnMergeSameUptoRow, standIns := [], harness := (true, "394e74b608ff754551f8bfc4f6667491ed442972439b3afb947562fb6de5053a"), looks := true }, kinds := [], alts := [], laidByText := true, laidKinds := [.sentinel, .sentinel, .sentinel], laidTests := true, laidLooks := .later }
def FnMergeSameUptoCardSaid : Prop := Claim7.holds Tryd.pinned (.plain (OpenSpec.upto fnMergeSameSpec)) fnMergeSameUptoCard

/-- THE SECOND FORM's CARD OF 'laws.FnMergeMore'. -/
def fnMergeMoreUptoCard : Claim7 := { stood := { row := fnMergeMoreUptoRow, standIns := [], harness := (true, "394e74b608ff754551f8bfc4f6667491ed442972439b3afb947562fb6de5053a"), looks := true }, kinds := [], alts := [], laidByText := true, laidKinds := [.sentinel, .sentinel, .sentinel], laidTests := true, laidLooks := .later }
def FnMergeMoreUptoCardSaid : Prop := Claim7.holds Tryd.pinned (.plain (OpenSpec.upto fnMergeMoreSpec)) fnMergeMoreUptoCard
end Rows
end Go.Proofs.YtoaipphccjkphaaDoor
