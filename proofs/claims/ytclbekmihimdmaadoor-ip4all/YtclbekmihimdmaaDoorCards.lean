/-
  DERIVED. GIVEN WITH THE SEED: THE CARDS: each row of YtclbekmihimdmaaDoorRows.lean that lists a variable, with what it lists TIED to the program's text (the seventh form; the later family's looks); each row that meets fmt, with fmt's text TOLD by the authors' own Lean function (tested against real Go, not proved from fmt's source: count such statements apart). THE CARD IS WHAT COUNTS. Prove the row's statement (the work); the ties are given (YtclbekmihimdmaaDoorTie.lean); close each card by the builder's one call (the guide's Derived/Test/ToyasCard.lean, 'card_holds'). Laid BY PROGRAM, IN A SANDBOX (cutbox-door.mjs). By AI agents, Wed Nov 11 2026. No macro, syntax, notation, axiom, sorry.
-/
import Derived.Test.YtclbekmihimdmaaDoorRows
import GoSem.ClaimSeven
namespace Go.Proofs.YtclbekmihimdmaaDoor
namespace Rows

/-- THE TIED CARD OF 'shortcutlaw7.Ip4All'. -/
def ip4AllCard : Claim7 := { stood := { row := ip4AllRow, standIns := [], harness := (true, "2659f6b581714fb20db04f902d2ecd57d6d036281282a90d20c84b4c46df071c"), looks := false }, kinds := [], alts := [], laidByText := true, laidKinds := [.data, .data, .data, .data, .pinned], laidTests := true, laidLooks := .later }
def Ip4AllCardSaid : Prop := Claim7.holds Tryd.pinned (.plain (OpenSpec.ofChange ip4AllSpec)) ip4AllCard

/-- THE TIED CARD OF 'shortcutlaw7.Ip4Back'. -/
def ip4BackCard : Claim7 := { stood := { row := ip4BackRow, standIns := [], harness := (true, "2659f6b581714fb20db04f902d2ecd57d6d036281282a90d20c84b4c46df071c"), looks := false }, kinds := [], alts := [], laidByText := true, laidKinds := [.data, .data, .data, .data, .pinned], laidTests := true, laidLooks := .later }
def Ip4BackCardSaid : Prop := Claim7.holds Tryd.pinned (.plain (OpenSpec.ofChange ip4BackSpec)) ip4BackCard

/-- THE TIED CARD OF 'shortcutlaw7.Ip4Parts'. -/
def ip4PartsCard : Claim7 := { stood := { row := ip4PartsRow, standIns := [], harness := (true, "2659f6b581714fb20db04f902d2ecd57d6d036281282a90d20c84b4c46df071c"), looks := false }, kinds := [], alts := [], laidByText := true, laidKinds := [.data, .data, .data, .data, .pinned], laidTests := true, laidLooks := .later }
def Ip4PartsCardSaid : Prop := Claim7.holds Tryd.pinned (.plain (OpenSpec.ofChange ip4PartsSpec)) ip4PartsCard

/-- THE TIED CARD OF 'shortcutlaw7.Ip4Forms'. -/
def ip4FormsCard : Claim7 := { stood := { row := ip4FormsRow, standIns := [], harness := (true, "2659f6b581714fb20db04f902d2ecd57d6d036281282a90d20c84b4c46df071c"), looks := false }, kinds := [], alts := [], laidByText := true, laidKinds := [.data, .data, .data, .data, .pinned], laidTests := true, laidLooks := .later }
def Ip4FormsCardSaid : Prop := Claim7.holds Tryd.pinned (.plain (OpenSpec.ofChange ip4FormsSpec)) ip4FormsCard

/-- THE TIED CARD OF 'shortcutlaw7.Ip4Order'. -/
def ip4OrderCard : Claim7 := { stood := { row := ip4OrderRow, standIns := [], harness := (true, "2659f6b581714fb20db04f902d2ecd57d6d036281282a90d20c84b4c46df071c"), looks := false }, kinds := [], alts := [], laidByText := true, laidKinds := [.data, .data, .data, .data, .pinned], laidTests := true, laidLooks := .later }
def Ip4OrderCardSaid : Prop := Claim7.holds Tryd.pinned (.plain (OpenSpec.ofChange ip4OrderSpec)) ip4OrderCard

/-- THE SECOND FORM's CARD OF 'shortcutlaw7.Ip4All'. -/
def ip4AllUptoCard : Claim7 := { stood := { row := ip4AllUptoRow, standIns := [], harness := (true, "2659f6b581714fb20db04f902d2ecd57d6d036281282a90d20c84b4c46df071c"), looks := false }, kinds := [], alts := [], laidByText := true, laidKinds := [.data, .data, .data, .data, .pinned], laidTests := true, laidLooks := .later }
def Ip4AllUptoCardSaid : Prop := Claim7.holds Tryd.pinned (.plain (OpenSpec.upto ip4AllSpec)) ip4AllUptoCard

/-- THE SECOND FORM's CARD OF 'shortcutlaw7.Ip4Back'. -/
def ip4BackUptoCard : Claim7 := { stood := { row := ip4BackUptoRow, standIns := [], harness := (true, "2659f6b581714fb20db04f902d2ecd57d6d036281282a90d20c84b4c46df071c"), looks := false }, kinds := [], alts := [], laidByText := true, laidKinds := [.data, .data, .data, .data, .pinned], laidTests := true, laidLooks := .later }
def Ip4BackUptoCardSaid : Prop := Claim7.holds Tryd.pinned (.plain (OpenSpec.upto ip4BackSpec)) ip4BackUptoCard

/-- THE SECOND FORM's CARD OF 'shortcutlaw7.Ip4Parts'. -/
def ip4PartsUptoCard : Claim7 := { stood := { row := ip4PartsUptoRow, standIns := [], harness := (true, "2659f6b581714fb20db04f902d2ecd57d6d036281282a90d20c84b4c46df071c"), looks := false }, kinds := [], alts := [], laidByText := true, laidKinds := [.data, .data, .data, .data, .pinned], laidTests := true, laidLooks := .later }
def Ip4PartsUptoCardSaid : Prop := Claim7.holds Tryd.pinned (.plain (OpenSpec.upto ip4PartsSpec)) ip4PartsUptoCard

/-- THE SECOND FORM's CARD OF 'shortcutlaw7.Ip4Forms'. -/
def ip4FormsUptoCard : Claim7 := { stood := { row := ip4FormsUptoRow, standIns := [], harness := (true, "2659f6b581714fb20db04f902d2ecd57d6d036281282a90d20c84b4c46df071c"), looks := false }, kinds := [], alts := [], laidByText := true, laidKinds := [.data, .data, .data, .data, .pinned], laidTests := true, laidLooks := .later }
def Ip4FormsUptoCardSaid : Prop := Claim7.holds Tryd.pinned (.plain (OpenSpec.upto ip4FormsSpec)) ip4FormsUptoCard

/-- THE SECOND FORM's CARD OF 'shortcutlaw7.Ip4Order'. -/
def ip4OrderUptoCard : Claim7 := { stood := { row := ip4OrderUptoRow, standIns := [], harness := (true, "2659f6b581714fb20db04f902d2ecd57d6d036281282a90d20c84b4c46df071c"), looks := false }, kinds := [], alts := [], laidByText := true, laidKinds := [.data, .data, .data, .data, .pinned], laidTests := true, laidLooks := .later }
def Ip4OrderUptoCardSaid : Prop := Claim7.holds Tryd.pinned (.plain (OpenSpec.upto ip4OrderSpec)) ip4OrderUptoCard
end Rows
end Go.Proofs.YtclbekmihimdmaaDoor
