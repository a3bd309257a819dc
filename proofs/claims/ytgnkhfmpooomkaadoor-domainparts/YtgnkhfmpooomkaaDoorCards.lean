/-
  DERIVED. GIVEN WITH THE SEED: THE CARDS: each row of YtgnkhfmpooomkaaDoorRows.lean that lists a variable, with what it lists TIED to the program's text (the seventh form; the later family's looks); each row that meets fmt, with fmt's text TOLD by the authors' own Lean function (tested against real Go, not proved from fmt's source: count such statements apart). THE CARD IS WHAT COUNTS. Prove the row's statement (the work); the ties are given (YtgnkhfmpooomkaaDoorTie.lean); close each card by the builder's one call (the guide's Derived/Test/ToyasCard.lean, 'card_holds'). Laid BY PROGRAM, IN A SANDBOX (cutbox-door.mjs). By AI agents, Wed Nov 11 2026. No macro, syntax, notation, axiom, sorry.
-/
import Derived.Test.YtgnkhfmpooomkaaDoorRows
import GoSem.ClaimSeven
namespace Go.Proofs.YtgnkhfmpooomkaaDoor
namespace Rows

/-- THE TIED CARD OF 'shortcutlaw6.DomainStays'. -/
def domainStaysCard : Claim7 := { stood := { row := domainStaysRow, standIns := [], harness := (true, "3dab33c1e2c6806675582f5a9d9a7d31e1d1d5b310bf834b5b81faa1040ecba1"), looks := false }, kinds := [], alts := [], laidByText := true, laidKinds := [.data, .data, .data, .pinned], laidTests := true, laidLooks := .later }
def DomainStaysCardSaid : Prop := Claim7.holds Tryd.pinned (.plain (OpenSpec.ofChange domainStaysSpec)) domainStaysCard

/-- THE TIED CARD OF 'shortcutlaw6.DomainLarge'. -/
def domainLargeCard : Claim7 := { stood := { row := domainLargeRow, standIns := [], harness := (true, "3dab33c1e2c6806675582f5a9d9a7d31e1d1d5b310bf834b5b81faa1040ecba1"), looks := false }, kinds := [], alts := [], laidByText := true, laidKinds := [.data, .data, .data, .pinned], laidTests := true, laidLooks := .later }
def DomainLargeCardSaid : Prop := Claim7.holds Tryd.pinned (.plain (OpenSpec.ofChange domainLargeSpec)) domainLargeCard

/-- THE TIED CARD OF 'shortcutlaw6.DomainForms'. -/
def domainFormsCard : Claim7 := { stood := { row := domainFormsRow, standIns := [], harness := (true, "3dab33c1e2c6806675582f5a9d9a7d31e1d1d5b310bf834b5b81faa1040ecba1"), looks := false }, kinds := [], alts := [], laidByText := true, laidKinds := [.data, .data, .data, .pinned], laidTests := true, laidLooks := .later }
def DomainFormsCardSaid : Prop := Claim7.holds Tryd.pinned (.plain (OpenSpec.ofChange domainFormsSpec)) domainFormsCard

/-- THE TIED CARD OF 'shortcutlaw6.DomainParts'. -/
def domainPartsCard : Claim7 := { stood := { row := domainPartsRow, standIns := [], harness := (true, "3dab33c1e2c6806675582f5a9d9a7d31e1d1d5b310bf834b5b81faa1040ecba1"), looks := false }, kinds := [], alts := [], laidByText := true, laidKinds := [.data, .data, .data, .pinned], laidTests := true, laidLooks := .later }
def DomainPartsCardSaid : Prop := Claim7.holds Tryd.pinned (.plain (OpenSpec.ofChange domainPartsSpec)) domainPartsCard

/-- THE SECOND FORM's CARD OF 'shortcutlaw6.DomainStays'. -/
def domainStaysUptoCard : Claim7 := { stood := { row := domainStaysUptoRow, standIns := [], harness := (true, "3dab33c1e2c6806675582f5a9d9a7d31e1d1d5b310bf834b5b81faa1040ecba1"), looks := false }, kinds := [], alts := [], laidByText := true, laidKinds := [.data, .data, .data, .pinned], laidTests := true, laidLooks := .later }
def DomainStaysUptoCardSaid : Prop := Claim7.holds Tryd.pinned (.plain (OpenSpec.upto domainStaysSpec)) domainStaysUptoCard

/-- THE SECOND FORM's CARD OF 'shortcutlaw6.DomainLarge'. -/
def domainLargeUptoCard : Claim7 := { stood := { row := domainLargeUptoRow, standIns := [], harness := (true, "3dab33c1e2c6806675582f5a9d9a7d31e1d1d5b310bf834b5b81faa1040ecba1"), looks := false }, kinds := [], alts := [], laidByText := true, laidKinds := [.data, .data, .data, .pinned], laidTests := true, laidLooks := .later }
def DomainLargeUptoCardSaid : Prop := Claim7.holds Tryd.pinned (.plain (OpenSpec.upto domainLargeSpec)) domainLargeUptoCard

/-- THE SECOND FORM's CARD OF 'shortcutlaw6.DomainForms'. -/
def domainFormsUptoCard : Claim7 := { stood := { row := domainFormsUptoRow, standIns := [], harness := (true, "3dab33c1e2c6806675582f5a9d9a7d31e1d1d5b310bf834b5b81faa1040ecba1"), looks := false }, kinds := [], alts := [], laidByText := true, laidKinds := [.data, .data, .data, .pinned], laidTests := true, laidLooks := .later }
def DomainFormsUptoCardSaid : Prop := Claim7.holds Tryd.pinned (.plain (OpenSpec.upto domainFormsSpec)) domainFormsUptoCard

/-- THE SECOND FORM's CARD OF 'shortcutlaw6.DomainParts'. -/
def domainPartsUptoCard : Claim7 := { stood := { row := domainPartsUptoRow, standIns := [], harness := (true, "3dab33c1e2c6806675582f5a9d9a7d31e1d1d5b310bf834b5b81faa1040ecba1"), looks := false }, kinds := [], alts := [], laidByText := true, laidKinds := [.data, .data, .data, .pinned], laidTests := true, laidLooks := .later }
def DomainPartsUptoCardSaid : Prop := Claim7.holds Tryd.pinned (.plain (OpenSpec.upto domainPartsSpec)) domainPartsUptoCard
end Rows
end Go.Proofs.YtgnkhfmpooomkaaDoor
