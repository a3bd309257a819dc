/-
  DERIVED. GIVEN WITH THE SEED: THE CARDS: each row of YtenlampiiodkhaaGreatDoorRows.lean that lists a variable, with what it lists TIED to the program's text (the seventh form; the later family's looks); each row that meets fmt, with fmt's text TOLD by the authors' own Lean function (tested against real Go, not proved from fmt's source: count such statements apart). THE CARD IS WHAT COUNTS. Prove the row's statement (the work); the ties are given (YtenlampiiodkhaaGreatDoorTie.lean); close each card by the builder's one call (the guide's Derived/Test/ToyasCard.lean, 'card_holds'). Laid BY PROGRAM, IN A SANDBOX (cutbox-door.mjs). By AI agents, Wed Nov 11 2026. No macro, syntax, notation, axiom, sorry.
-/
import Derived.Test.YtenlampiiodkhaaGreatDoorRows
import GoSem.ClaimSeven
namespace Go.Proofs.YtenlampiiodkhaaGreatDoor
namespace Rows

/-- THE TIED CARD OF 'shortcutlaw6.DomainAll'. -/
def domainAllCard : Claim7 := { stood := { row := domainAllRow, standIns := [], harness := (true, "123167146c9cc3775cb462cded6fa7aad07e10743adee0abe7c0de15a932b031"), looks := true }, kinds := [], alts := [], laidByText := true, laidKinds := [.data, .data, .data, .pinned], laidTests := true, laidLooks := .later }
def DomainAllCardSaid : Prop := Claim7.holds Tryz.pinned (.plain (OpenSpec.ofChange domainAllSpec)) domainAllCard

/-- THE TIED CARD OF 'shortcutlaw9.HostAll'. -/
def hostAllCard : Claim7 := { stood := { row := hostAllRow, standIns := [], harness := (true, "123167146c9cc3775cb462cded6fa7aad07e10743adee0abe7c0de15a932b031"), looks := true }, kinds := [], alts := [], laidByText := true, laidKinds := [.data, .data, .data, .data, .data, .data, .sentinel, .sentinel, .pinned], laidTests := true, laidLooks := .later }
def HostAllCardSaid : Prop := Claim7.holds Tryz.pinned (.plain (OpenSpec.ofChange hostAllSpec)) hostAllCard

/-- THE TIED CARD OF 'shortcutlaw9.HostStays'. -/
def hostStaysCard : Claim7 := { stood := { row := hostStaysRow, standIns := [], harness := (true, "123167146c9cc3775cb462cded6fa7aad07e10743adee0abe7c0de15a932b031"), looks := true }, kinds := [], alts := [], laidByText := true, laidKinds := [.data, .data, .data, .data, .data, .data, .sentinel, .sentinel, .pinned], laidTests := true, laidLooks := .later }
def HostStaysCardSaid : Prop := Claim7.holds Tryz.pinned (.plain (OpenSpec.ofChange hostStaysSpec)) hostStaysCard

/-- THE TIED CARD OF 'shortcutlaw9.HostNumbers'. -/
def hostNumbersCard : Claim7 := { stood := { row := hostNumbersRow, standIns := [], harness := (true, "123167146c9cc3775cb462cded6fa7aad07e10743adee0abe7c0de15a932b031"), looks := true }, kinds := [], alts := [], laidByText := true, laidKinds := [.data, .data, .data, .data, .data, .data, .sentinel, .sentinel, .pinned], laidTests := true, laidLooks := .later }
def HostNumbersCardSaid : Prop := Claim7.holds Tryz.pinned (.plain (OpenSpec.ofChange hostNumbersSpec)) hostNumbersCard

/-- THE TIED CARD OF 'shortcutlaw9.HostForms'. -/
def hostFormsCard : Claim7 := { stood := { row := hostFormsRow, standIns := [], harness := (true, "123167146c9cc3775cb462cded6fa7aad07e10743adee0abe7c0de15a932b031"), looks := true }, kinds := [], alts := [], laidByText := true, laidKinds := [.data, .data, .data, .data, .data, .data, .sentinel, .sentinel, .pinned], laidTests := true, laidLooks := .later }
def HostFormsCardSaid : Prop := Claim7.holds Tryz.pinned (.plain (OpenSpec.ofChange hostFormsSpec)) hostFormsCard

/-- THE SECOND FORM's CARD OF 'shortcutlaw6.DomainAll'. -/
def domainAllUptoCard : Claim7 := { stood := { row := domainAllUptoRow, standIns := [], harness := (true, "123167146c9cc3775cb462cded6fa7aad07e10743adee0abe7c0de15a932b031"), looks := true }, kinds := [], alts := [], laidByText := true, laidKinds := [.data, .data, .data, .pinned], laidTests := true, laidLooks := .later }
def DomainAllUptoCardSaid : Prop := Claim7.holds Tryz.pinned (.plain (OpenSpec.upto domainAllSpec)) domainAllUptoCard

/-- THE SECOND FORM's CARD OF 'shortcutlaw9.HostAll'. -/
def hostAllUptoCard : Claim7 := { stood := { row := hostAllUptoRow, standIns := [], harness := (true, "123167146c9cc3775cb462cded6fa7aad07e10743adee0abe7c0de15a932b031"), looks := true }, kinds := [], alts := [], laidByText := true, laidKinds := [.data, .data, .data, .data, .data, .data, .sentinel, .sentinel, .pinned], laidTests := true, laidLooks := .later }
def HostAllUptoCardSaid : Prop := Claim7.holds Tryz.pinned (.plain (OpenSpec.upto hostAllSpec)) hostAllUptoCard

/-- THE SECOND FORM's CARD OF 'shortcutlaw9.HostStays'. -/
def hostStaysUptoCard : Claim7 := { stood := { row := hostStaysUptoRow, standIns := [], harness := (true, "123167146c9cc3775cb462cded6fa7aad07e10743adee0abe7c0de15a932b031"), looks := true }, kinds := [], alts := [], laidByText := true, laidKinds := [.data, .data, .data, .data, .data, .data, .sentinel, .sentinel, .pinned], laidTests := true, laidLooks := .later }
def HostStaysUptoCardSaid : Prop := Claim7.holds Tryz.pinned (.plain (OpenSpec.upto hostStaysSpec)) hostStaysUptoCard

/-- THE SECOND FORM's CARD OF 'shortcutlaw9.HostNumbers'. -/
def hostNumbersUptoCard : Claim7 := { stood := { row := hostNumbersUptoRow, standIns := [], harness := (true, "123167146c9cc3775cb462cded6fa7aad07e10743adee0abe7c0de15a932b031"), looks := true }, kinds := [], alts := [], laidByText := true, laidKinds := [.data, .data, .data, .data, .data, .data, .sentinel, .sentinel, .pinned], laidTests := true, laidLooks := .later }
def HostNumbersUptoCardSaid : Prop := Claim7.holds Tryz.pinned (.plain (OpenSpec.upto hostNumbersSpec)) hostNumbersUptoCard

/-- THE SECOND FORM's CARD OF 'shortcutlaw9.HostForms'. -/
def hostFormsUptoCard : Claim7 := { stood := { row := hostFormsUptoRow, standIns := [], harness := (true, "123167146c9cc3775cb462cded6fa7aad07e10743adee0abe7c0de15a932b031"), looks := true }, kinds := [], alts := [], laidByText := true, laidKinds := [.data, .data, .data, .data, .data, .data, .sentinel, .sentinel, .pinned], laidTests := true, laidLooks := .later }
def HostFormsUptoCardSaid : Prop := Claim7.holds Tryz.pinned (.plain (OpenSpec.upto hostFormsSpec)) hostFormsUptoCard
end Rows
end Go.Proofs.YtenlampiiodkhaaGreatDoor
