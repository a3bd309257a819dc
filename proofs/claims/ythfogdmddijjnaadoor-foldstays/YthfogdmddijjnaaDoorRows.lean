/-
  NARROWER THAN 'FOR EVERY INPUT', by the rows' own cells (each row's printed sentence says how): FoldMaps: laid · FoldTexts: laid · FoldStays: laid · FoldForms: laid · FoldParts: laid.
  DERIVED. THE GIVEN ROWS OF THIS SEAT. 5 by the template 'for every input the law returns true; each argument reads behind the call as it read before'; 0 by the template 'total and deterministic' (their statements: YthfogdmddijjnaaDoorTotals.lean).
  GIVEN WITH THE SEED: the statements are not yours to turn. If you find one false, say at which input.
  Laid BY PROGRAM, IN A SANDBOX (cutbox-rows.mjs): the forced cells as the released guide's own fill.sh prints them over the translation 49b2c37f9fd181da… (all of the seat's roots in one cut). By AI agents, Wed Nov 11 2026. No macro, syntax, notation, axiom, sorry.
-/
import Derived.Test.YthfogdmddijjnaaDoorChecked
import GoSem.Claim
import GoSem.ClaimJoined
import GoSem.ClaimMapViews
import Derived.JoinedTies
import Derived.KernelRfl
namespace Go.Proofs.YthfogdmddijjnaaDoor
/- THE CELL 'sum', in the pinned program and in every row, IS THE sha256 OF THE DUMP (.gsa) THAT YthfogdmddijjnaaDoorProg.lean LOADS. Nothing in Lean hashes anything: it is a label: what it is worth is what the hold of that sum in a sandbox is worth. -/
noncomputable def Tryd.pinned : Pinned := { name := "ythfogdmddijjnaadoor", sum := "49b2c37f9fd181da8341e1b1ae260d4ab38766b0049523e9ec19dd222b6b7cb1", checked := Tryd.checked }
namespace Rows
def none {H : Type} : Left H := { results := [], args := [] }

/- WHAT THE LISTED PACKAGE-LEVEL VARIABLES READ AS WHEN THE CALL BEGINS. Each datum BY PROGRAM (the guide's laid-datum.mjs) off the statement by which the dump's own 'gosem.cut.vars' lays the variable. In a bare row this is a premise. The card (YthfogdmddijjnaaDoorCards.lean) ties it to the program's text. -/
def laid_shortcut_fold_leftOut {H : Type} : DataW H := .agg [.agg [.lit (.int .i32 173), .lit (.int .i32 173), .lit (.int .i32 1)], .agg [.lit (.int .i32 8203), .lit (.int .i32 8205), .lit (.int .i32 1)], .agg [.lit (.int .i32 8288), .lit (.int .i32 8288), .lit (.int .i32 1)], .agg [.lit (.int .i32 65279), .lit (.int .i32 65279), .lit (.int .i32 1)]]
def laid_shortcut_fold_large {H : Type} : DataW H := .agg [.agg [.agg [.lit (.int .i32 65), .lit (.int .i32 90), .lit (.int .i32 1)], .lit (.int .i32 32)], .agg [.agg [.lit (.int .i32 192), .lit (.int .i32 214), .lit (.int .i32 1)], .lit (.int .i32 32)], .agg [.agg [.lit (.int .i32 216), .lit (.int .i32 222), .lit (.int .i32 1)], .lit (.int .i32 32)], .agg [.agg [.lit (.int .i32 256), .lit (.int .i32 303), .lit (.int .i32 2)], .lit (.int .i32 1)], .agg [.agg [.lit (.int .i32 913), .lit (.int .i32 929), .lit (.int .i32 1)], .lit (.int .i32 32)], .agg [.agg [.lit (.int .i32 931), .lit (.int .i32 937), .lit (.int .i32 1)], .lit (.int .i32 32)], .agg [.agg [.lit (.int .i32 1024), .lit (.int .i32 1039), .lit (.int .i32 1)], .lit (.int .i32 80)], .agg [.agg [.lit (.int .i32 1040), .lit (.int .i32 1071), .lit (.int .i32 1)], .lit (.int .i32 32)]]

/-- 'shortcutlaw4.FoldMaps': WHATEVER THE INPUT: true; the input reads as it did. -/
def foldMapsSpec : ChangeSpec := { name := "foldMaps", fn := fun _ => fun
  | [d] => { results := [.lit (.bool true)], args := [d] }
  | _ => none }
def foldMapsRow : OpenClaim := { program := "ythfogdmddijjnaadoor", sum := "49b2c37f9fd181da8341e1b1ae260d4ab38766b0049523e9ec19dd222b6b7cb1", func := "shortcut/shortcutlaw4.FoldMaps", spec := "foldMaps", recurses := true, named := ["shortcut/fold.leftOut", "shortcut/fold.large"], apart := false, laid := [("shortcut/fold.leftOut", laid_shortcut_fold_leftOut), ("shortcut/fold.large", laid_shortcut_fold_large)] }
def FoldMapsSaid : Prop := foldMapsRow.holds Tryd.pinned (OpenSpec.ofChange foldMapsSpec)

/-- ITS FALSE NEIGHBOUR: 'it returns false'. Refute it at one input. -/
def foldMapsWrong : ChangeSpec := { name := "foldMaps", fn := fun _ => fun
  | [d] => { results := [.lit (.bool false)], args := [d] }
  | _ => none }
def FoldMapsWrongFalsely : Prop := foldMapsRow.holds Tryd.pinned (OpenSpec.ofChange foldMapsWrong)

/-- 'shortcutlaw4.FoldTexts': WHATEVER THE INPUT: true; the input reads as it did. -/
def foldTextsSpec : ChangeSpec := { name := "foldTexts", fn := fun _ => fun
  | [d] => { results := [.lit (.bool true)], args := [d] }
  | _ => none }
def foldTextsRow : OpenClaim := { program := "ythfogdmddijjnaadoor", sum := "49b2c37f9fd181da8341e1b1ae260d4ab38766b0049523e9ec19dd222b6b7cb1", func := "shortcut/shortcutlaw4.FoldTexts", spec := "foldTexts", recurses := true, named := ["shortcut/fold.leftOut", "shortcut/fold.large"], apart := false, laid := [("shortcut/fold.leftOut", laid_shortcut_fold_leftOut), ("shortcut/fold.large", laid_shortcut_fold_large)] }
def FoldTextsSaid : Prop := foldTextsRow.holds Tryd.pinned (OpenSpec.ofChange foldTextsSpec)

/-- ITS FALSE NEIGHBOUR: 'it returns false'. Refute it at one input. -/
def foldTextsWrong : ChangeSpec := { name := "foldTexts", fn := fun _ => fun
  | [d] => { results := [.lit (.bool false)], args := [d] }
  | _ => none }
def FoldTextsWrongFalsely : Prop := foldTextsRow.holds Tryd.pinned (OpenSpec.ofChange foldTextsWrong)

/-- 'shortcutlaw4.FoldStays': WHATEVER THE INPUT: true; the input reads as it did. -/
def foldStaysSpec : ChangeSpec := { name := "foldStays", fn := fun _ => fun
  | [d] => { results := [.lit (.bool true)], args := [d] }
  | _ => none }
def foldStaysRow : OpenClaim := { program := "ythfogdmddijjnaadoor", sum := "49b2c37f9fd181da8341e1b1ae260d4ab38766b0049523e9ec19dd222b6b7cb1", func := "shortcut/shortcutlaw4.FoldStays", spec := "foldStays", recurses := true, named := ["shortcut/fold.leftOut", "shortcut/fold.large"], apart := false, laid := [("shortcut/fold.leftOut", laid_shortcut_fold_leftOut), ("shortcut/fold.large", laid_shortcut_fold_large)] }
def FoldStaysSaid : Prop := foldStaysRow.holds Tryd.pinned (OpenSpec.ofChange foldStaysSpec)

/-- ITS FALSE NEIGHBOUR: 'it returns false'. Refute it at one input. -/
def foldStaysWrong : ChangeSpec := { name := "foldStays", fn := fun _ => fun
  | [d] => { results := [.lit (.bool false)], args := [d] }
  | _ => none }
def FoldStaysWrongFalsely : Prop := foldStaysRow.holds Tryd.pinned (OpenSpec.ofChange foldStaysWrong)

/-- 'shortcutlaw4.FoldForms': WHATEVER THE INPUT: true; the input reads as it did. -/
def foldFormsSpec : ChangeSpec := { name := "foldForms", fn := fun _ => fun
  | [] => { results := [.lit (.bool true)], args := [] }
  | _ => none }
def foldFormsRow : OpenClaim := { program := "ythfogdmddijjnaadoor", sum := "49b2c37f9fd181da8341e1b1ae260d4ab38766b0049523e9ec19dd222b6b7cb1", func := "shortcut/shortcutlaw4.FoldForms", spec := "foldForms", recurses := true, named := ["shortcut/fold.leftOut", "shortcut/fold.large"], apart := false, laid := [("shortcut/fold.leftOut", laid_shortcut_fold_leftOut), ("shortcut/fold.large", laid_shortcut_fold_large)] }
def FoldFormsSaid : Prop := foldFormsRow.holds Tryd.pinned (OpenSpec.ofChange foldFormsSpec)

/-- ITS FALSE NEIGHBOUR: 'it returns false'. Refute it at one input. -/
def foldFormsWrong : ChangeSpec := { name := "foldForms", fn := fun _ => fun
  | [] => { results := [.lit (.bool false)], args := [] }
  | _ => none }
def FoldFormsWrongFalsely : Prop := foldFormsRow.holds Tryd.pinned (OpenSpec.ofChange foldFormsWrong)

/-- 'shortcutlaw4.FoldParts': WHATEVER THE INPUT: true; the input reads as it did. -/
def foldPartsSpec : ChangeSpec := { name := "foldParts", fn := fun _ => fun
  | [d1, d2] => { results := [.lit (.bool true)], args := [d1, d2] }
  | _ => none }
def foldPartsRow : OpenClaim := { program := "ythfogdmddijjnaadoor", sum := "49b2c37f9fd181da8341e1b1ae260d4ab38766b0049523e9ec19dd222b6b7cb1", func := "shortcut/shortcutlaw4.FoldParts", spec := "foldParts", recurses := true, named := ["shortcut/fold.leftOut", "shortcut/fold.large"], apart := false, laid := [("shortcut/fold.leftOut", laid_shortcut_fold_leftOut), ("shortcut/fold.large", laid_shortcut_fold_large)] }
def FoldPartsSaid : Prop := foldPartsRow.holds Tryd.pinned (OpenSpec.ofChange foldPartsSpec)

/-- ITS FALSE NEIGHBOUR: 'it returns false'. Refute it at one input. -/
def foldPartsWrong : ChangeSpec := { name := "foldParts", fn := fun _ => fun
  | [d1, d2] => { results := [.lit (.bool false)], args := [d1, d2] }
  | _ => none }
def FoldPartsWrongFalsely : Prop := foldPartsRow.holds Tryd.pinned (OpenSpec.ofChange foldPartsWrong)

/- THE SECOND FORM. 'bulk': how many values and letters a reading holds, each counted each time it is reached (what is shared counts as often as it is met; a slice's spare places count too). A statement '..UptoSaid' is the law's where the arguments, and the package variables that the reading takes, are together of bulk at most 1048576: NARROWER than '..Said'. Prove '..Said' where nothing that the law and all that it calls make is longer than what came in: it says more and counts as full. Else prove '..UptoSaid'. A law counts once. -/
mutual
def uptoBulk {H : Type} : DataW H → Nat
  | .lit (.string bytes) => bytes.length + 1
  | .lit _ => 1
  | .nil => 1
  | .ptr d => uptoBulk d + 1
  | .slice elems spare => uptoBulkAll elems + uptoBulkAll spare + 1
  | .agg parts => uptoBulkAll parts + 1
  | .iface _ d => uptoBulk d + 1
  | .map entries => uptoBulkEntries entries + 1
  | .held _ => 1
def uptoBulkAll {H : Type} : List (DataW H) → Nat
  | [] => 0
  | d :: r => uptoBulk d + uptoBulkAll r
def uptoBulkEntries {H : Type} : List (Lit × DataW H) → Nat
  | [] => 0
  | x :: r => uptoBulkEntry x + uptoBulkEntries r
def uptoBulkEntry {H : Type} : Lit × DataW H → Nat
  | (.string bytes, d) => bytes.length + uptoBulk d + 1
  | (_, d) => uptoBulk d + 1
 end
def uptoSmall : (H : Type) → List (DataW H) → Bool := fun _ ds => decide (uptoBulkAll ds ≤ 1048576)
def OpenSpec.upto (s : _root_.Go.ChangeSpec) : _root_.Go.OpenSpec := { _root_.Go.OpenSpec.ofChange s with cond := some uptoSmall }

/-- 'shortcutlaw4.FoldMaps', WHERE WHAT IT READS IS OF BULK AT MOST 1048576: true; the input reads as it did. -/
def foldMapsUptoRow : OpenClaim := { program := "ythfogdmddijjnaadoor", sum := "49b2c37f9fd181da8341e1b1ae260d4ab38766b0049523e9ec19dd222b6b7cb1", func := "shortcut/shortcutlaw4.FoldMaps", spec := "foldMaps", recurses := true, named := ["shortcut/fold.leftOut", "shortcut/fold.large"], apart := false, laid := [("shortcut/fold.leftOut", laid_shortcut_fold_leftOut), ("shortcut/fold.large", laid_shortcut_fold_large)], narrowed := true }
def FoldMapsUptoSaid : Prop := foldMapsUptoRow.holds Tryd.pinned (OpenSpec.upto foldMapsSpec)

/-- 'shortcutlaw4.FoldTexts', WHERE WHAT IT READS IS OF BULK AT MOST 1048576: true; the input reads as it did. -/
def foldTextsUptoRow : OpenClaim := { program := "ythfogdmddijjnaadoor", sum := "49b2c37f9fd181da8341e1b1ae260d4ab38766b0049523e9ec19dd222b6b7cb1", func := "shortcut/shortcutlaw4.FoldTexts", spec := "foldTexts", recurses := true, named := ["shortcut/fold.leftOut", "shortcut/fold.large"], apart := false, laid := [("shortcut/fold.leftOut", laid_shortcut_fold_leftOut), ("shortcut/fold.large", laid_shortcut_fold_large)], narrowed := true }
def FoldTextsUptoSaid : Prop := foldTextsUptoRow.holds Tryd.pinned (OpenSpec.upto foldTextsSpec)

/-- 'shortcutlaw4.FoldStays', WHERE WHAT IT READS IS OF BULK AT MOST 1048576: true; the input reads as it did. -/
def foldStaysUptoRow : OpenClaim := { program := "ythfogdmddijjnaadoor", sum := "49b2c37f9fd181da8341e1b1ae260d4ab38766b0049523e9ec19dd222b6b7cb1", func := "shortcut/shortcutlaw4.FoldStays", spec := "foldStays", recurses := true, named := ["shortcut/fold.leftOut", "shortcut/fold.large"], apart := false, laid := [("shortcut/fold.leftOut", laid_shortcut_fold_leftOut), ("shortcut/fold.large", laid_shortcut_fold_large)], narrowed := true }
def FoldStaysUptoSaid : Prop := foldStaysUptoRow.holds Tryd.pinned (OpenSpec.upto foldStaysSpec)

/-- 'shortcutlaw4.FoldForms', WHERE WHAT IT READS IS OF BULK AT MOST 1048576: true; the input reads as it did. -/
def foldFormsUptoRow : OpenClaim := { program := "ythfogdmddijjnaadoor", sum := "49b2c37f9fd181da8341e1b1ae260d4ab38766b0049523e9ec19dd222b6b7cb1", func := "shortcut/shortcutlaw4.FoldForms", spec := "foldForms", recurses := true, named := ["shortcut/fold.leftOut", "shortcut/fold.large"], apart := false, laid := [("shortcut/fold.leftOut", laid_shortcut_fold_leftOut), ("shortcut/fold.large", laid_shortcut_fold_large)], narrowed := true }
def FoldFormsUptoSaid : Prop := foldFormsUptoRow.holds Tryd.pinned (OpenSpec.upto foldFormsSpec)

/-- 'shortcutlaw4.FoldParts', WHERE WHAT IT READS IS OF BULK AT MOST 1048576: true; the input reads as it did. -/
def foldPartsUptoRow : OpenClaim := { program := "ythfogdmddijjnaadoor", sum := "49b2c37f9fd181da8341e1b1ae260d4ab38766b0049523e9ec19dd222b6b7cb1", func := "shortcut/shortcutlaw4.FoldParts", spec := "foldParts", recurses := true, named := ["shortcut/fold.leftOut", "shortcut/fold.large"], apart := false, laid := [("shortcut/fold.leftOut", laid_shortcut_fold_leftOut), ("shortcut/fold.large", laid_shortcut_fold_large)], narrowed := true }
def FoldPartsUptoSaid : Prop := foldPartsUptoRow.holds Tryd.pinned (OpenSpec.upto foldPartsSpec)

end Rows
end Go.Proofs.YthfogdmddijjnaaDoor
