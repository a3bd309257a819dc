/-
  No cell of these rows narrows 'for every input' (looked for: loops, veiled, ifaces, maps, wideKeys, modest, calm, conditions, laid).
  DERIVED. THE GIVEN ROWS OF THIS SEAT. 5 by the template 'for every input the law returns true; each argument reads behind the call as it read before'; 0 by the template 'total and deterministic' (their statements: YthgoipljhhjebaaTotals.lean).
  GIVEN WITH THE SEED: the statements are not yours to turn. If you find one false, say at which input.
  Laid BY PROGRAM, IN A SANDBOX (cutbox-rows.mjs): the forced cells as the released guide's own fill.sh prints them over the translation b0d2f5eb748215d3… (all of the seat's roots in one cut). By AI agents, Wed Nov 11 2026. No macro, syntax, notation, axiom, sorry.
-/
import Derived.Test.YthgoipljhhjebaaChecked
import GoSem.Claim
import GoSem.ClaimJoined
import GoSem.ClaimMapViews
import Derived.JoinedTies
import Derived.KernelRfl
namespace Go.Proofs.Ythgoipljhhjebaa
/- THE CELL 'sum', in the pinned program and in every row, IS THE sha256 OF THE DUMP (.gsa) THAT YthgoipljhhjebaaProg.lean LOADS. Nothing in Lean hashes anything: it is a label: what it is worth is what the hold of that sum in a sandbox is worth. -/
noncomputable def Try.pinned : Pinned := { name := "ythgoipljhhjebaa", sum := "b0d2f5eb748215d399a2c70f1cccad8f7a5b5199be2dcd9a6400a76f8b9a6afe", checked := Try.checked }
namespace Rows
def none {H : Type} : Left H := { results := [], args := [] }

/-- 'shortcutlaw3.PctAll': WHATEVER THE INPUT: true; the input reads as it did. -/
def pctAllSpec : ChangeSpec := { name := "pctAll", fn := fun _ => fun
  | [d1, d2, d3, d4] => { results := [.lit (.bool true)], args := [d1, d2, d3, d4] }
  | _ => none }
def pctAllRow : OpenClaim := { program := "ythgoipljhhjebaa", sum := "b0d2f5eb748215d399a2c70f1cccad8f7a5b5199be2dcd9a6400a76f8b9a6afe", func := "shortcut/shortcutlaw3.PctAll", spec := "pctAll", inPlace := ["internal/bytealg.IndexByteString"], apart := false }
def PctAllSaid : Prop := pctAllRow.holds Try.pinned (OpenSpec.ofChange pctAllSpec)

/-- ITS FALSE NEIGHBOUR: 'it returns false'. Refute it at one input. -/
def pctAllWrong : ChangeSpec := { name := "pctAll", fn := fun _ => fun
  | [d1, d2, d3, d4] => { results := [.lit (.bool false)], args := [d1, d2, d3, d4] }
  | _ => none }
def PctAllWrongFalsely : Prop := pctAllRow.holds Try.pinned (OpenSpec.ofChange pctAllWrong)

/-- 'shortcutlaw3.PctBack': WHATEVER THE INPUT: true; the input reads as it did. -/
def pctBackSpec : ChangeSpec := { name := "pctBack", fn := fun _ => fun
  | [d1, d2] => { results := [.lit (.bool true)], args := [d1, d2] }
  | _ => none }
def pctBackRow : OpenClaim := { program := "ythgoipljhhjebaa", sum := "b0d2f5eb748215d399a2c70f1cccad8f7a5b5199be2dcd9a6400a76f8b9a6afe", func := "shortcut/shortcutlaw3.PctBack", spec := "pctBack", inPlace := ["internal/bytealg.IndexByteString"], apart := false }
def PctBackSaid : Prop := pctBackRow.holds Try.pinned (OpenSpec.ofChange pctBackSpec)

/-- ITS FALSE NEIGHBOUR: 'it returns false'. Refute it at one input. -/
def pctBackWrong : ChangeSpec := { name := "pctBack", fn := fun _ => fun
  | [d1, d2] => { results := [.lit (.bool false)], args := [d1, d2] }
  | _ => none }
def PctBackWrongFalsely : Prop := pctBackRow.holds Try.pinned (OpenSpec.ofChange pctBackWrong)

/-- 'shortcutlaw3.PctNest': WHATEVER THE INPUT: true; the input reads as it did. -/
def pctNestSpec : ChangeSpec := { name := "pctNest", fn := fun _ => fun
  | [d] => { results := [.lit (.bool true)], args := [d] }
  | _ => none }
def pctNestRow : OpenClaim := { program := "ythgoipljhhjebaa", sum := "b0d2f5eb748215d399a2c70f1cccad8f7a5b5199be2dcd9a6400a76f8b9a6afe", func := "shortcut/shortcutlaw3.PctNest", spec := "pctNest", inPlace := ["internal/bytealg.IndexByteString"], apart := false }
def PctNestSaid : Prop := pctNestRow.holds Try.pinned (OpenSpec.ofChange pctNestSpec)

/-- ITS FALSE NEIGHBOUR: 'it returns false'. Refute it at one input. -/
def pctNestWrong : ChangeSpec := { name := "pctNest", fn := fun _ => fun
  | [d] => { results := [.lit (.bool false)], args := [d] }
  | _ => none }
def PctNestWrongFalsely : Prop := pctNestRow.holds Try.pinned (OpenSpec.ofChange pctNestWrong)

/-- 'shortcutlaw3.PctStays': WHATEVER THE INPUT: true; the input reads as it did. -/
def pctStaysSpec : ChangeSpec := { name := "pctStays", fn := fun _ => fun
  | [d1, d2] => { results := [.lit (.bool true)], args := [d1, d2] }
  | _ => none }
def pctStaysRow : OpenClaim := { program := "ythgoipljhhjebaa", sum := "b0d2f5eb748215d399a2c70f1cccad8f7a5b5199be2dcd9a6400a76f8b9a6afe", func := "shortcut/shortcutlaw3.PctStays", spec := "pctStays", inPlace := ["internal/bytealg.IndexByteString"], apart := false }
def PctStaysSaid : Prop := pctStaysRow.holds Try.pinned (OpenSpec.ofChange pctStaysSpec)

/-- ITS FALSE NEIGHBOUR: 'it returns false'. Refute it at one input. -/
def pctStaysWrong : ChangeSpec := { name := "pctStays", fn := fun _ => fun
  | [d1, d2] => { results := [.lit (.bool false)], args := [d1, d2] }
  | _ => none }
def PctStaysWrongFalsely : Prop := pctStaysRow.holds Try.pinned (OpenSpec.ofChange pctStaysWrong)

/-- 'shortcutlaw3.PctForms': WHATEVER THE INPUT: true; the input reads as it did. -/
def pctFormsSpec : ChangeSpec := { name := "pctForms", fn := fun _ => fun
  | [] => { results := [.lit (.bool true)], args := [] }
  | _ => none }
def pctFormsRow : OpenClaim := { program := "ythgoipljhhjebaa", sum := "b0d2f5eb748215d399a2c70f1cccad8f7a5b5199be2dcd9a6400a76f8b9a6afe", func := "shortcut/shortcutlaw3.PctForms", spec := "pctForms", inPlace := ["internal/bytealg.IndexByteString"], apart := false }
def PctFormsSaid : Prop := pctFormsRow.holds Try.pinned (OpenSpec.ofChange pctFormsSpec)

/-- ITS FALSE NEIGHBOUR: 'it returns false'. Refute it at one input. -/
def pctFormsWrong : ChangeSpec := { name := "pctForms", fn := fun _ => fun
  | [] => { results := [.lit (.bool false)], args := [] }
  | _ => none }
def PctFormsWrongFalsely : Prop := pctFormsRow.holds Try.pinned (OpenSpec.ofChange pctFormsWrong)

/- THE SECOND FORM. 'bulk': how many values and letters a reading holds, each counted each time it is reached (what is shared counts as often as it is met; a slice's spare places count too). A statement '..UptoSaid' is the law's where the arguments, and the package variables that the reading takes, are together of bulk at most 1048576: NARROWER than '..Said'. Prove '..Said' where nothing that the law and all that it calls make is longer than what came in: it says more and counts as full. Else prove '..UptoSaid'. A law counts once. -/
mutual
def uptoBulk {H : Type} : DataW H → Nat
  | .lit (.string bytes) => bytes.length + 1
  | .lit _ => 1
  | .nil => 1
  | .ptr d => uptoBulk d + 1
  | .slice elems spare => uptoBulkAll elems + uptoBulkAll spare + 1
  | .agg parts => uptoBulkAll parts + 1
  | .iface _ d => uptoBulk d + 1
  | .map entries => uptoBulkEntries entries + 1
  | .held _ => 1
def uptoBulkAll {H : Type} : List (DataW H) → Nat
  | [] => 0
  | d :: r => uptoBulk d + uptoBulkAll r
def uptoBulkEntries {H : Type} : List (Lit × DataW H) → Nat
  | [] => 0
  | x :: r => uptoBulkEntry x + uptoBulkEntries r
def uptoBulkEntry {H : Type} : Lit × DataW H → Nat
  | (.string bytes, d) => bytes.length + uptoBulk d + 1
  | (_, d) => uptoBulk d + 1
 end
def uptoSmall : (H : Type) → List (DataW H) → Bool := fun _ ds => decide (uptoBulkAll ds ≤ 1048576)
def OpenSpec.upto (s : _root_.Go.ChangeSpec) : _root_.Go.OpenSpec := { _root_.Go.OpenSpec.ofChange s with cond := some uptoSmall }

/-- 'shortcutlaw3.PctAll', WHERE WHAT IT READS IS OF BULK AT MOST 1048576: true; the input reads as it did. -/
def pctAllUptoRow : OpenClaim := { program := "ythgoipljhhjebaa", sum := "b0d2f5eb748215d399a2c70f1cccad8f7a5b5199be2dcd9a6400a76f8b9a6afe", func := "shortcut/shortcutlaw3.PctAll", spec := "pctAll", inPlace := ["internal/bytealg.IndexByteString"], apart := false, narrowed := true }
def PctAllUptoSaid : Prop := pctAllUptoRow.holds Try.pinned (OpenSpec.upto pctAllSpec)

/-- 'shortcutlaw3.PctBack', WHERE WHAT IT READS IS OF BULK AT MOST 1048576: true; the input reads as it did. -/
def pctBackUptoRow : OpenClaim := { program := "ythgoipljhhjebaa", sum := "b0d2f5eb748215d399a2c70f1cccad8f7a5b5199be2dcd9a6400a76f8b9a6afe", func := "shortcut/shortcutlaw3.PctBack", spec := "pctBack", inPlace := ["internal/bytealg.IndexByteString"], apart := false, narrowed := true }
def PctBackUptoSaid : Prop := pctBackUptoRow.holds Try.pinned (OpenSpec.upto pctBackSpec)

/-- 'shortcutlaw3.PctNest', WHERE WHAT IT READS IS OF BULK AT MOST 1048576: true; the input reads as it did. -/
def pctNestUptoRow : OpenClaim := { program := "ythgoipljhhjebaa", sum := "b0d2f5eb748215d399a2c70f1cccad8f7a5b5199be2dcd9a6400a76f8b9a6afe", func := "shortcut/shortcutlaw3.PctNest", spec := "pctNest", inPlace := ["internal/bytealg.IndexByteString"], apart := false, narrowed := true }
def PctNestUptoSaid : Prop := pctNestUptoRow.holds Try.pinned (OpenSpec.upto pctNestSpec)

/-- 'shortcutlaw3.PctStays', WHERE WHAT IT READS IS OF BULK AT MOST 1048576: true; the input reads as it did. -/
def pctStaysUptoRow : OpenClaim := { program := "ythgoipljhhjebaa", sum := "b0d2f5eb748215d399a2c70f1cccad8f7a5b5199be2dcd9a6400a76f8b9a6afe", func := "shortcut/shortcutlaw3.PctStays", spec := "pctStays", inPlace := ["internal/bytealg.IndexByteString"], apart := false, narrowed := true }
def PctStaysUptoSaid : Prop := pctStaysUptoRow.holds Try.pinned (OpenSpec.upto pctStaysSpec)

/-- 'shortcutlaw3.PctForms', WHERE WHAT IT READS IS OF BULK AT MOST 1048576: true; the input reads as it did. -/
def pctFormsUptoRow : OpenClaim := { program := "ythgoipljhhjebaa", sum := "b0d2f5eb748215d399a2c70f1cccad8f7a5b5199be2dcd9a6400a76f8b9a6afe", func := "shortcut/shortcutlaw3.PctForms", spec := "pctForms", inPlace := ["internal/bytealg.IndexByteString"], apart := false, narrowed := true }
def PctFormsUptoSaid : Prop := pctFormsUptoRow.holds Try.pinned (OpenSpec.upto pctFormsSpec)

end Rows
end Go.Proofs.Ythgoipljhhjebaa
