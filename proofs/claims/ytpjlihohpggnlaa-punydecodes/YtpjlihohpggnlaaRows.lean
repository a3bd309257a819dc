/-
  No cell of these rows narrows 'for every input' (looked for: loops, veiled, ifaces, maps, wideKeys, modest, calm, conditions, laid).
  DERIVED. THE GIVEN ROWS OF THIS SEAT. 5 by the template 'for every input the law returns true; each argument reads behind the call as it read before'; 0 by the template 'total and deterministic' (their statements: YtpjlihohpggnlaaTotals.lean).
  GIVEN WITH THE SEED: the statements are not yours to turn. If you find one false, say at which input.
  Laid BY PROGRAM, IN A SANDBOX (cutbox-rows.mjs): the forced cells as the released guide's own fill.sh prints them over the translation 699a48afff745578… (all of the seat's roots in one cut). By AI agents, Wed Nov 11 2026. No macro, syntax, notation, axiom, sorry.
-/
import Derived.Test.YtpjlihohpggnlaaChecked
import GoSem.Claim
import GoSem.ClaimJoined
import GoSem.ClaimMapViews
import Derived.JoinedTies
import Derived.KernelRfl
namespace Go.Proofs.Ytpjlihohpggnlaa
/- THE CELL 'sum', in the pinned program and in every row, IS THE sha256 OF THE DUMP (.gsa) THAT YtpjlihohpggnlaaProg.lean LOADS. Nothing in Lean hashes anything: it is a label: what it is worth is what the hold of that sum in a sandbox is worth. -/
noncomputable def Try.pinned : Pinned := { name := "ytpjlihohpggnlaa", sum := "699a48afff7455788a7fe88b180a1769293af08bc5c74eed7e6238a7f1f0d38b", checked := Try.checked }
namespace Rows
def none {H : Type} : Left H := { results := [], args := [] }

/-- 'shortcutlaw5.PunyEncodes': WHATEVER THE INPUT: true; the input reads as it did. -/
def punyEncodesSpec : ChangeSpec := { name := "punyEncodes", fn := fun _ => fun
  | [d] => { results := [.lit (.bool true)], args := [d] }
  | _ => none }
def punyEncodesRow : OpenClaim := { program := "ytpjlihohpggnlaa", sum := "699a48afff7455788a7fe88b180a1769293af08bc5c74eed7e6238a7f1f0d38b", func := "shortcut/shortcutlaw5.PunyEncodes", spec := "punyEncodes", inPlace := ["slices.overlaps[rune]"], unfollowed := true, recurses := true, apart := false }
def PunyEncodesSaid : Prop := punyEncodesRow.holds Try.pinned (OpenSpec.ofChange punyEncodesSpec)

/-- ITS FALSE NEIGHBOUR: 'it returns false'. Refute it at one input. -/
def punyEncodesWrong : ChangeSpec := { name := "punyEncodes", fn := fun _ => fun
  | [d] => { results := [.lit (.bool false)], args := [d] }
  | _ => none }
def PunyEncodesWrongFalsely : Prop := punyEncodesRow.holds Try.pinned (OpenSpec.ofChange punyEncodesWrong)

/-- 'shortcutlaw5.PunyDecodes': WHATEVER THE INPUT: true; the input reads as it did. -/
def punyDecodesSpec : ChangeSpec := { name := "punyDecodes", fn := fun _ => fun
  | [d] => { results := [.lit (.bool true)], args := [d] }
  | _ => none }
def punyDecodesRow : OpenClaim := { program := "ytpjlihohpggnlaa", sum := "699a48afff7455788a7fe88b180a1769293af08bc5c74eed7e6238a7f1f0d38b", func := "shortcut/shortcutlaw5.PunyDecodes", spec := "punyDecodes", inPlace := ["slices.overlaps[rune]"], unfollowed := true, recurses := true, apart := false }
def PunyDecodesSaid : Prop := punyDecodesRow.holds Try.pinned (OpenSpec.ofChange punyDecodesSpec)

/-- ITS FALSE NEIGHBOUR: 'it returns false'. Refute it at one input. -/
def punyDecodesWrong : ChangeSpec := { name := "punyDecodes", fn := fun _ => fun
  | [d] => { results := [.lit (.bool false)], args := [d] }
  | _ => none }
def PunyDecodesWrongFalsely : Prop := punyDecodesRow.holds Try.pinned (OpenSpec.ofChange punyDecodesWrong)

/-- 'shortcutlaw5.PunyBack': WHATEVER THE INPUT: true; the input reads as it did. -/
def punyBackSpec : ChangeSpec := { name := "punyBack", fn := fun _ => fun
  | [d] => { results := [.lit (.bool true)], args := [d] }
  | _ => none }
def punyBackRow : OpenClaim := { program := "ytpjlihohpggnlaa", sum := "699a48afff7455788a7fe88b180a1769293af08bc5c74eed7e6238a7f1f0d38b", func := "shortcut/shortcutlaw5.PunyBack", spec := "punyBack", inPlace := ["slices.overlaps[rune]"], unfollowed := true, recurses := true, apart := false }
def PunyBackSaid : Prop := punyBackRow.holds Try.pinned (OpenSpec.ofChange punyBackSpec)

/-- ITS FALSE NEIGHBOUR: 'it returns false'. Refute it at one input. -/
def punyBackWrong : ChangeSpec := { name := "punyBack", fn := fun _ => fun
  | [d] => { results := [.lit (.bool false)], args := [d] }
  | _ => none }
def PunyBackWrongFalsely : Prop := punyBackRow.holds Try.pinned (OpenSpec.ofChange punyBackWrong)

/-- 'shortcutlaw5.PunyOne': WHATEVER THE INPUT: true; the input reads as it did. -/
def punyOneSpec : ChangeSpec := { name := "punyOne", fn := fun _ => fun
  | [d] => { results := [.lit (.bool true)], args := [d] }
  | _ => none }
def punyOneRow : OpenClaim := { program := "ytpjlihohpggnlaa", sum := "699a48afff7455788a7fe88b180a1769293af08bc5c74eed7e6238a7f1f0d38b", func := "shortcut/shortcutlaw5.PunyOne", spec := "punyOne", inPlace := ["slices.overlaps[rune]"], unfollowed := true, recurses := true, apart := false }
def PunyOneSaid : Prop := punyOneRow.holds Try.pinned (OpenSpec.ofChange punyOneSpec)

/-- ITS FALSE NEIGHBOUR: 'it returns false'. Refute it at one input. -/
def punyOneWrong : ChangeSpec := { name := "punyOne", fn := fun _ => fun
  | [d] => { results := [.lit (.bool false)], args := [d] }
  | _ => none }
def PunyOneWrongFalsely : Prop := punyOneRow.holds Try.pinned (OpenSpec.ofChange punyOneWrong)

/-- 'shortcutlaw5.PunyForms': WHATEVER THE INPUT: true; the input reads as it did. -/
def punyFormsSpec : ChangeSpec := { name := "punyForms", fn := fun _ => fun
  | [] => { results := [.lit (.bool true)], args := [] }
  | _ => none }
def punyFormsRow : OpenClaim := { program := "ytpjlihohpggnlaa", sum := "699a48afff7455788a7fe88b180a1769293af08bc5c74eed7e6238a7f1f0d38b", func := "shortcut/shortcutlaw5.PunyForms", spec := "punyForms", inPlace := ["slices.overlaps[rune]"], unfollowed := true, recurses := true, apart := false }
def PunyFormsSaid : Prop := punyFormsRow.holds Try.pinned (OpenSpec.ofChange punyFormsSpec)

/-- ITS FALSE NEIGHBOUR: 'it returns false'. Refute it at one input. -/
def punyFormsWrong : ChangeSpec := { name := "punyForms", fn := fun _ => fun
  | [] => { results := [.lit (.bool false)], args := [] }
  | _ => none }
def PunyFormsWrongFalsely : Prop := punyFormsRow.holds Try.pinned (OpenSpec.ofChange punyFormsWrong)

/- THE SECOND FORM. 'bulk': how many values and letters a reading holds, each counted each time it is reached (what is shared counts as often as it is met; a slice's spare places count too). A statement '..UptoSaid' is the law's where the arguments, and the package variables that the reading takes, are together of bulk at most 1048576: NARROWER than '..Said'. Prove '..Said' where nothing that the law and all that it calls make is longer than what came in: it says more and counts as full. Else prove '..UptoSaid'. A law counts once. -/
mutual
def uptoBulk {H : Type} : DataW H → Nat
  | .lit (.string bytes) => bytes.length + 1
  | .lit _ => 1
  | .nil => 1
  | .ptr d => uptoBulk d + 1
  | .slice elems spare => uptoBulkAll elems + uptoBulkAll spare + 1
  | .agg parts => uptoBulkAll parts + 1
  | .iface _ d => uptoBulk d + 1
  | .map entries => uptoBulkEntries entries + 1
  | .held _ => 1
def uptoBulkAll {H : Type} : List (DataW H) → Nat
  | [] => 0
  | d :: r => uptoBulk d + uptoBulkAll r
def uptoBulkEntries {H : Type} : List (Lit × DataW H) → Nat
  | [] => 0
  | x :: r => uptoBulkEntry x + uptoBulkEntries r
def uptoBulkEntry {H : Type} : Lit × DataW H → Nat
  | (.string bytes, d) => bytes.length + uptoBulk d + 1
  | (_, d) => uptoBulk d + 1
 end
def uptoSmall : (H : Type) → List (DataW H) → Bool := fun _ ds => decide (uptoBulkAll ds ≤ 1048576)
def OpenSpec.upto (s : _root_.Go.ChangeSpec) : _root_.Go.OpenSpec := { _root_.Go.OpenSpec.ofChange s with cond := some uptoSmall }

/-- 'shortcutlaw5.PunyEncodes', WHERE WHAT IT READS IS OF BULK AT MOST 1048576: true; the input reads as it did. -/
def punyEncodesUptoRow : OpenClaim := { program := "ytpjlihohpggnlaa", sum := "699a48afff7455788a7fe88b180a1769293af08bc5c74eed7e6238a7f1f0d38b", func := "shortcut/shortcutlaw5.PunyEncodes", spec := "punyEncodes", inPlace := ["slices.overlaps[rune]"], unfollowed := true, recurses := true, apart := false, narrowed := true }
def PunyEncodesUptoSaid : Prop := punyEncodesUptoRow.holds Try.pinned (OpenSpec.upto punyEncodesSpec)

/-- 'shortcutlaw5.PunyDecodes', WHERE WHAT IT READS IS OF BULK AT MOST 1048576: true; the input reads as it did. -/
def punyDecodesUptoRow : OpenClaim := { program := "ytpjlihohpggnlaa", sum := "699a48afff7455788a7fe88b180a1769293af08bc5c74eed7e6238a7f1f0d38b", func := "shortcut/shortcutlaw5.PunyDecodes", spec := "punyDecodes", inPlace := ["slices.overlaps[rune]"], unfollowed := true, recurses := true, apart := false, narrowed := true }
def PunyDecodesUptoSaid : Prop := punyDecodesUptoRow.holds Try.pinned (OpenSpec.upto punyDecodesSpec)

/-- 'shortcutlaw5.PunyBack', WHERE WHAT IT READS IS OF BULK AT MOST 1048576: true; the input reads as it did. -/
def punyBackUptoRow : OpenClaim := { program := "ytpjlihohpggnlaa", sum := "699a48afff7455788a7fe88b180a1769293af08bc5c74eed7e6238a7f1f0d38b", func := "shortcut/shortcutlaw5.PunyBack", spec := "punyBack", inPlace := ["slices.overlaps[rune]"], unfollowed := true, recurses := true, apart := false, narrowed := true }
def PunyBackUptoSaid : Prop := punyBackUptoRow.holds Try.pinned (OpenSpec.upto punyBackSpec)

/-- 'shortcutlaw5.PunyOne', WHERE WHAT IT READS IS OF BULK AT MOST 1048576: true; the input reads as it did. -/
def punyOneUptoRow : OpenClaim := { program := "ytpjlihohpggnlaa", sum := "699a48afff7455788a7fe88b180a1769293af08bc5c74eed7e6238a7f1f0d38b", func := "shortcut/shortcutlaw5.PunyOne", spec := "punyOne", inPlace := ["slices.overlaps[rune]"], unfollowed := true, recurses := true, apart := false, narrowed := true }
def PunyOneUptoSaid : Prop := punyOneUptoRow.holds Try.pinned (OpenSpec.upto punyOneSpec)

/-- 'shortcutlaw5.PunyForms', WHERE WHAT IT READS IS OF BULK AT MOST 1048576: true; the input reads as it did. -/
def punyFormsUptoRow : OpenClaim := { program := "ytpjlihohpggnlaa", sum := "699a48afff7455788a7fe88b180a1769293af08bc5c74eed7e6238a7f1f0d38b", func := "shortcut/shortcutlaw5.PunyForms", spec := "punyForms", inPlace := ["slices.overlaps[rune]"], unfollowed := true, recurses := true, apart := false, narrowed := true }
def PunyFormsUptoSaid : Prop := punyFormsUptoRow.holds Try.pinned (OpenSpec.upto punyFormsSpec)

end Rows
end Go.Proofs.Ytpjlihohpggnlaa
