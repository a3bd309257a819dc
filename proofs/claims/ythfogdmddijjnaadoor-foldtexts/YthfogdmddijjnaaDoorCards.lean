/-
  DERIVED. GIVEN WITH THE SEED: THE CARDS: each row of YthfogdmddijjnaaDoorRows.lean that lists a variable, with what it lists TIED to the program's text (the seventh form; the later family's looks); each row that meets fmt, with fmt's text TOLD by the authors' own Lean function (tested against real Go, not proved from fmt's source: count such statements apart). THE CARD IS WHAT COUNTS. Prove the row's statement (the work); the ties are given (YthfogdmddijjnaaDoorTie.lean); close each card by the builder's one call (the guide's Derived/Test/ToyasCard.lean, 'card_holds'). Laid BY PROGRAM, IN A SANDBOX (cutbox-door.mjs). By AI agents, Wed Nov 11 2026. No macro, syntax, notation, axiom, sorry.
-/
import Derived.Test.YthfogdmddijjnaaDoorRows
import GoSem.ClaimSeven
namespace Go.Proofs.YthfogdmddijjnaaDoor
namespace Rows

/-- THE TIED CARD OF 'shortcutlaw4.FoldMaps'. -/
def foldMapsCard : Claim7 := { stood := { row := foldMapsRow, standIns := [], harness := (true, "6f2f1511c618ca7e588582ee9ed7733b4ca20c334aaa7c3aba2611e6750395c2"), looks := false }, kinds := [], alts := [], laidByText := true, laidKinds := [.data, .data], laidTests := true, laidLooks := .later }
def FoldMapsCardSaid : Prop := Claim7.holds Tryd.pinned (.plain (OpenSpec.ofChange foldMapsSpec)) foldMapsCard

/-- THE TIED CARD OF 'shortcutlaw4.FoldTexts'. -/
def foldTextsCard : Claim7 := { stood := { row := foldTextsRow, standIns := [], harness := (true, "6f2f1511c618ca7e588582ee9ed7733b4ca20c334aaa7c3aba2611e6750395c2"), looks := false }, kinds := [], alts := [], laidByText := true, laidKinds := [.data, .data], laidTests := true, laidLooks := .later }
def FoldTextsCardSaid : Prop := Claim7.holds Tryd.pinned (.plain (OpenSpec.ofChange foldTextsSpec)) foldTextsCard

/-- THE TIED CARD OF 'shortcutlaw4.FoldStays'. -/
def foldStaysCard : Claim7 := { stood := { row := foldStaysRow, standIns := [], harness := (true, "6f2f1511c618ca7e588582ee9ed7733b4ca20c334aaa7c3aba2611e6750395c2"), looks := false }, kinds := [], alts := [], laidByText := true, laidKinds := [.data, .data], laidTests := true, laidLooks := .later }
def FoldStaysCardSaid : Prop := Claim7.holds Tryd.pinned (.plain (OpenSpec.ofChange foldStaysSpec)) foldStaysCard

/-- THE TIED CARD OF 'shortcutlaw4.FoldForms'. -/
def foldFormsCard : Claim7 := { stood := { row := foldFormsRow, standIns := [], harness := (true, "6f2f1511c618ca7e588582ee9ed7733b4ca20c334aaa7c3aba2611e6750395c2"), looks := false }, kinds := [], alts := [], laidByText := true, laidKinds := [.data, .data], laidTests := true, laidLooks := .later }
def FoldFormsCardSaid : Prop := Claim7.holds Tryd.pinned (.plain (OpenSpec.ofChange foldFormsSpec)) foldFormsCard

/-- THE TIED CARD OF 'shortcutlaw4.FoldParts'. -/
def foldPartsCard : Claim7 := { stood := { row := foldPartsRow, standIns := [], harness := (true, "6f2f1511c618ca7e588582ee9ed7733b4ca20c334aaa7c3aba2611e6750395c2"), looks := false }, kinds := [], alts := [], laidByText := true, laidKinds := [.data, .data], laidTests := true, laidLooks := .later }
def FoldPartsCardSaid : Prop := Claim7.holds Tryd.pinned (.plain (OpenSpec.ofChange foldPartsSpec)) foldPartsCard

/-- THE SECOND FORM's CARD OF 'shortcutlaw4.FoldMaps'. -/
def foldMapsUptoCard : Claim7 := { stood := { row := foldMapsUptoRow, standIns := [], harness := (true, "6f2f1511c618ca7e588582ee9ed7733b4ca20c334aaa7c3aba2611e6750395c2"), looks := false }, kinds := [], alts := [], laidByText := true, laidKinds := [.data, .data], laidTests := true, laidLooks := .later }
def FoldMapsUptoCardSaid : Prop := Claim7.holds Tryd.pinned (.plain (OpenSpec.upto foldMapsSpec)) foldMapsUptoCard

/-- THE SECOND FORM's CARD OF 'shortcutlaw4.FoldTexts'. -/
def foldTextsUptoCard : Claim7 := { stood := { row := foldTextsUptoRow, standIns := [], harness := (true, "6f2f1511c618ca7e588582ee9ed7733b4ca20c334aaa7c3aba2611e6750395c2"), looks := false }, kinds := [], alts := [], laidByText := true, laidKinds := [.data, .data], laidTests := true, laidLooks := .later }
def FoldTextsUptoCardSaid : Prop := Claim7.holds Tryd.pinned (.plain (OpenSpec.upto foldTextsSpec)) foldTextsUptoCard

/-- THE SECOND FORM's CARD OF 'shortcutlaw4.FoldStays'. -/
def foldStaysUptoCard : Claim7 := { stood := { row := foldStaysUptoRow, standIns := [], harness := (true, "6f2f1511c618ca7e588582ee9ed7733b4ca20c334aaa7c3aba2611e6750395c2"), looks := false }, kinds := [], alts := [], laidByText := true, laidKinds := [.data, .data], laidTests := true, laidLooks := .later }
def FoldStaysUptoCardSaid : Prop := Claim7.holds Tryd.pinned (.plain (OpenSpec.upto foldStaysSpec)) foldStaysUptoCard

/-- THE SECOND FORM's CARD OF 'shortcutlaw4.FoldForms'. -/
def foldFormsUptoCard : Claim7 := { stood := { row := foldFormsUptoRow, standIns := [], harness := (true, "6f2f1511c618ca7e588582ee9ed7733b4ca20c334aaa7c3aba2611e6750395c2"), looks := false }, kinds := [], alts := [], laidByText := true, laidKinds := [.data, .data], laidTests := true, laidLooks := .later }
def FoldFormsUptoCardSaid : Prop := Claim7.holds Tryd.pinned (.plain (OpenSpec.upto foldFormsSpec)) foldFormsUptoCard

/-- THE SECOND FORM's CARD OF 'shortcutlaw4.FoldParts'. -/
def foldPartsUptoCard : Claim7 := { stood := { row := foldPartsUptoRow, standIns := [], harness := (true, "6f2f1511c618ca7e588582ee9ed7733b4ca20c334aaa7c3aba2611e6750395c2"), looks := false }, kinds := [], alts := [], laidByText := true, laidKinds := [.data, .data], laidTests := true, laidLooks := .later }
def FoldPartsUptoCardSaid : Prop := Claim7.holds Tryd.pinned (.plain (OpenSpec.upto foldPartsSpec)) foldPartsUptoCard
end Rows
end Go.Proofs.YthfogdmddijjnaaDoor
