/-
  No cell of these rows narrows 'for every input' (looked for: loops, veiled, ifaces, maps, wideKeys, modest, calm, conditions, laid).
  DERIVED. THE GIVEN ROWS OF THIS SEAT. 7 by the template 'for every input the law returns true; each argument reads behind the call as it read before'; 0 by the template 'total and deterministic' (their statements: YtdeggklfjdgfjaaTotals.lean).
  GIVEN WITH THE SEED: the statements are not yours to turn. If you find one false, say at which input.
  Laid BY PROGRAM, IN A SANDBOX (cutbox-rows.mjs): the forced cells as the released guide's own fill.sh prints them over the translation 27aff7bdd4b8e69b… (all of the seat's roots in one cut). By AI agents, Wed Nov 11 2026. No macro, syntax, notation, axiom, sorry.
-/
import Derived.Test.YtdeggklfjdgfjaaChecked
import GoSem.Claim
import GoSem.ClaimJoined
import GoSem.ClaimMapViews
import Derived.JoinedTies
import Derived.KernelRfl
namespace Go.Proofs.Ytdeggklfjdgfjaa
/- THE CELL 'sum', in the pinned program and in every row, IS THE sha256 OF THE DUMP (.gsa) THAT YtdeggklfjdgfjaaProg.lean LOADS. Nothing in Lean hashes anything: it is a label: what it is worth is what the hold of that sum in a sandbox is worth. -/
noncomputable def Try.pinned : Pinned := { name := "ytdeggklfjdgfjaa", sum := "27aff7bdd4b8e69b578a0fb21df9e037691b0a0c8ab079f86070f5896ec2d1cb", checked := Try.checked }
namespace Rows
def none {H : Type} : Left H := { results := [], args := [] }

/-- 'folkmootlaw02.FilesNil': WHATEVER THE INPUT: true; the input reads as it did. -/
def filesNilSpec : ChangeSpec := { name := "filesNil", fn := fun _ => fun
  | [d] => { results := [.lit (.bool true)], args := [d] }
  | _ => none }
def filesNilRow : OpenClaim := { program := "ytdeggklfjdgfjaa", sum := "27aff7bdd4b8e69b578a0fb21df9e037691b0a0c8ab079f86070f5896ec2d1cb", func := "folkmoot/folkmootlaw02.FilesNil", spec := "filesNil", inPlace := ["internal/bytealg.abigen_runtime_cmpstring", "slices.overlaps[folkmoot/files.entry]"], unfollowed := true, recurses := true, apart := false }
def FilesNilSaid : Prop := filesNilRow.holds Try.pinned (OpenSpec.ofChange filesNilSpec)

/-- ITS FALSE NEIGHBOUR: 'it returns false'. Refute it at one input. -/
def filesNilWrong : ChangeSpec := { name := "filesNil", fn := fun _ => fun
  | [d] => { results := [.lit (.bool false)], args := [d] }
  | _ => none }
def FilesNilWrongFalsely : Prop := filesNilRow.holds Try.pinned (OpenSpec.ofChange filesNilWrong)

/-- 'folkmootlaw02.FilesInstead': WHATEVER THE INPUT: true; the input reads as it did. -/
def filesInsteadSpec : ChangeSpec := { name := "filesInstead", fn := fun _ => fun
  | [d] => { results := [.lit (.bool true)], args := [d] }
  | _ => none }
def filesInsteadRow : OpenClaim := { program := "ytdeggklfjdgfjaa", sum := "27aff7bdd4b8e69b578a0fb21df9e037691b0a0c8ab079f86070f5896ec2d1cb", func := "folkmoot/folkmootlaw02.FilesInstead", spec := "filesInstead", inPlace := ["internal/bytealg.abigen_runtime_cmpstring", "slices.overlaps[folkmoot/files.entry]"], unfollowed := true, recurses := true, apart := false }
def FilesInsteadSaid : Prop := filesInsteadRow.holds Try.pinned (OpenSpec.ofChange filesInsteadSpec)

/-- ITS FALSE NEIGHBOUR: 'it returns false'. Refute it at one input. -/
def filesInsteadWrong : ChangeSpec := { name := "filesInstead", fn := fun _ => fun
  | [d] => { results := [.lit (.bool false)], args := [d] }
  | _ => none }
def FilesInsteadWrongFalsely : Prop := filesInsteadRow.holds Try.pinned (OpenSpec.ofChange filesInsteadWrong)

/-- 'folkmootlaw02.FilesAnew': WHATEVER THE INPUT: true; the input reads as it did. -/
def filesAnewSpec : ChangeSpec := { name := "filesAnew", fn := fun _ => fun
  | [d1, d2] => { results := [.lit (.bool true)], args := [d1, d2] }
  | _ => none }
def filesAnewRow : OpenClaim := { program := "ytdeggklfjdgfjaa", sum := "27aff7bdd4b8e69b578a0fb21df9e037691b0a0c8ab079f86070f5896ec2d1cb", func := "folkmoot/folkmootlaw02.FilesAnew", spec := "filesAnew", inPlace := ["internal/bytealg.abigen_runtime_cmpstring", "slices.overlaps[folkmoot/files.entry]"], unfollowed := true, recurses := true, apart := false }
def FilesAnewSaid : Prop := filesAnewRow.holds Try.pinned (OpenSpec.ofChange filesAnewSpec)

/-- ITS FALSE NEIGHBOUR: 'it returns false'. Refute it at one input. -/
def filesAnewWrong : ChangeSpec := { name := "filesAnew", fn := fun _ => fun
  | [d1, d2] => { results := [.lit (.bool false)], args := [d1, d2] }
  | _ => none }
def FilesAnewWrongFalsely : Prop := filesAnewRow.holds Try.pinned (OpenSpec.ofChange filesAnewWrong)

/-- 'folkmootlaw02.FilesChange': WHATEVER THE INPUT: true; the input reads as it did. -/
def filesChangeSpec : ChangeSpec := { name := "filesChange", fn := fun _ => fun
  | [d1, d2, d3] => { results := [.lit (.bool true)], args := [d1, d2, d3] }
  | _ => none }
def filesChangeRow : OpenClaim := { program := "ytdeggklfjdgfjaa", sum := "27aff7bdd4b8e69b578a0fb21df9e037691b0a0c8ab079f86070f5896ec2d1cb", func := "folkmoot/folkmootlaw02.FilesChange", spec := "filesChange", inPlace := ["internal/bytealg.abigen_runtime_cmpstring", "slices.overlaps[folkmoot/files.entry]"], unfollowed := true, recurses := true, apart := false }
def FilesChangeSaid : Prop := filesChangeRow.holds Try.pinned (OpenSpec.ofChange filesChangeSpec)

/-- ITS FALSE NEIGHBOUR: 'it returns false'. Refute it at one input. -/
def filesChangeWrong : ChangeSpec := { name := "filesChange", fn := fun _ => fun
  | [d1, d2, d3] => { results := [.lit (.bool false)], args := [d1, d2, d3] }
  | _ => none }
def FilesChangeWrongFalsely : Prop := filesChangeRow.holds Try.pinned (OpenSpec.ofChange filesChangeWrong)

/-- 'folkmootlaw02.FilesSum': WHATEVER THE INPUT: true; the input reads as it did. -/
def filesSumSpec : ChangeSpec := { name := "filesSum", fn := fun _ => fun
  | [d1, d2, d3] => { results := [.lit (.bool true)], args := [d1, d2, d3] }
  | _ => none }
def filesSumRow : OpenClaim := { program := "ytdeggklfjdgfjaa", sum := "27aff7bdd4b8e69b578a0fb21df9e037691b0a0c8ab079f86070f5896ec2d1cb", func := "folkmoot/folkmootlaw02.FilesSum", spec := "filesSum", inPlace := ["internal/bytealg.abigen_runtime_cmpstring", "slices.overlaps[folkmoot/files.entry]"], unfollowed := true, recurses := true, apart := false }
def FilesSumSaid : Prop := filesSumRow.holds Try.pinned (OpenSpec.ofChange filesSumSpec)

/-- ITS FALSE NEIGHBOUR: 'it returns false'. Refute it at one input. -/
def filesSumWrong : ChangeSpec := { name := "filesSum", fn := fun _ => fun
  | [d1, d2, d3] => { results := [.lit (.bool false)], args := [d1, d2, d3] }
  | _ => none }
def FilesSumWrongFalsely : Prop := filesSumRow.holds Try.pinned (OpenSpec.ofChange filesSumWrong)

/-- 'folkmootlaw02.FilesBegin': WHATEVER THE INPUT: true; the input reads as it did. -/
def filesBeginSpec : ChangeSpec := { name := "filesBegin", fn := fun _ => fun
  | [d1, d2] => { results := [.lit (.bool true)], args := [d1, d2] }
  | _ => none }
def filesBeginRow : OpenClaim := { program := "ytdeggklfjdgfjaa", sum := "27aff7bdd4b8e69b578a0fb21df9e037691b0a0c8ab079f86070f5896ec2d1cb", func := "folkmoot/folkmootlaw02.FilesBegin", spec := "filesBegin", inPlace := ["internal/bytealg.abigen_runtime_cmpstring", "slices.overlaps[folkmoot/files.entry]"], unfollowed := true, recurses := true, apart := false }
def FilesBeginSaid : Prop := filesBeginRow.holds Try.pinned (OpenSpec.ofChange filesBeginSpec)

/-- ITS FALSE NEIGHBOUR: 'it returns false'. Refute it at one input. -/
def filesBeginWrong : ChangeSpec := { name := "filesBegin", fn := fun _ => fun
  | [d1, d2] => { results := [.lit (.bool false)], args := [d1, d2] }
  | _ => none }
def FilesBeginWrongFalsely : Prop := filesBeginRow.holds Try.pinned (OpenSpec.ofChange filesBeginWrong)

/-- 'folkmootlaw02.FilesCut': WHATEVER THE INPUT: true; the input reads as it did. -/
def filesCutSpec : ChangeSpec := { name := "filesCut", fn := fun _ => fun
  | [d1, d2] => { results := [.lit (.bool true)], args := [d1, d2] }
  | _ => none }
def filesCutRow : OpenClaim := { program := "ytdeggklfjdgfjaa", sum := "27aff7bdd4b8e69b578a0fb21df9e037691b0a0c8ab079f86070f5896ec2d1cb", func := "folkmoot/folkmootlaw02.FilesCut", spec := "filesCut", inPlace := ["internal/bytealg.abigen_runtime_cmpstring", "slices.overlaps[folkmoot/files.entry]"], unfollowed := true, recurses := true, apart := false }
def FilesCutSaid : Prop := filesCutRow.holds Try.pinned (OpenSpec.ofChange filesCutSpec)

/-- ITS FALSE NEIGHBOUR: 'it returns false'. Refute it at one input. -/
def filesCutWrong : ChangeSpec := { name := "filesCut", fn := fun _ => fun
  | [d1, d2] => { results := [.lit (.bool false)], args := [d1, d2] }
  | _ => none }
def FilesCutWrongFalsely : Prop := filesCutRow.holds Try.pinned (OpenSpec.ofChange filesCutWrong)

/- THE SECOND FORM. 'bulk': how many values and letters a reading holds, each counted each time it is reached (what is shared counts as often as it is met; a slice's spare places count too). A statement '..UptoSaid' is the law's where the arguments, and the package variables that the reading takes, are together of bulk at most 1048576: NARROWER than '..Said'. Prove '..Said' where nothing that the law and all that it calls make is longer than what came in: it says more and counts as full. Else prove '..UptoSaid'. A law counts once. -/
mutual
def uptoBulk {H : Type} : DataW H → Nat
  | .lit (.string bytes) => bytes.length + 1
  | .lit _ => 1
  | .nil => 1
  | .ptr d => uptoBulk d + 1
  | .slice elems spare => uptoBulkAll elems + uptoBulkAll spare + 1
  | .agg parts => uptoBulkAll parts + 1
  | .iface _ d => uptoBulk d + 1
  | .map entries => uptoBulkEntries entries + 1
  | .held _ => 1
def uptoBulkAll {H : Type} : List (DataW H) → Nat
  | [] => 0
  | d :: r => uptoBulk d + uptoBulkAll r
def uptoBulkEntries {H : Type} : List (Lit × DataW H) → Nat
  | [] => 0
  | x :: r => uptoBulkEntry x + uptoBulkEntries r
def uptoBulkEntry {H : Type} : Lit × DataW H → Nat
  | (.string bytes, d) => bytes.length + uptoBulk d + 1
  | (_, d) => uptoBulk d + 1
 end
def uptoSmall : (H : Type) → List (DataW H) → Bool := fun _ ds => decide (uptoBulkAll ds ≤ 1048576)
def OpenSpec.upto (s : _root_.Go.ChangeSpec) : _root_.Go.OpenSpec := { _root_.Go.OpenSpec.ofChange s with cond := some uptoSmall }

/-- 'folkmootlaw02.FilesNil', WHERE WHAT IT READS IS OF BULK AT MOST 1048576: true; the input reads as it did. -/
def filesNilUptoRow : OpenClaim := { program := "ytdeggklfjdgfjaa", sum := "27aff7bdd4b8e69b578a0fb21df9e037691b0a0c8ab079f86070f5896ec2d1cb", func := "folkmoot/folkmootlaw02.FilesNil", spec := "filesNil", inPlace := ["internal/bytealg.abigen_runtime_cmpstring", "slices.overlaps[folkmoot/files.entry]"], unfollowed := true, recurses := true, apart := false, narrowed := true }
def FilesNilUptoSaid : Prop := filesNilUptoRow.holds Try.pinned (OpenSpec.upto filesNilSpec)

/-- 'folkmootlaw02.FilesInstead', WHERE WHAT IT READS IS OF BULK AT MOST 1048576: true; the input reads as it did. -/
def filesInsteadUptoRow : OpenClaim := { program := "ytdeggklfjdgfjaa", sum := "27aff7bdd4b8e69b578a0fb21df9e037691b0a0c8ab079f86070f5896ec2d1cb", func := "folkmoot/folkmootlaw02.FilesInstead", spec := "filesInstead", inPlace := ["internal/bytealg.abigen_runtime_cmpstring", "slices.overlaps[folkmoot/files.entry]"], unfollowed := true, recurses := true, apart := false, narrowed := true }
def FilesInsteadUptoSaid : Prop := filesInsteadUptoRow.holds Try.pinned (OpenSpec.upto filesInsteadSpec)

/-- 'folkmootlaw02.FilesAnew', WHERE WHAT IT READS IS OF BULK AT MOST 1048576: true; the input reads as it did. -/
def filesAnewUptoRow : OpenClaim := { program := "ytdeggklfjdgfjaa", sum := "27aff7bdd4b8e69b578a0fb21df9e037691b0a0c8ab079f86070f5896ec2d1cb", func := "folkmoot/folkmootlaw02.FilesAnew", spec := "filesAnew", inPlace := ["internal/bytealg.abigen_runtime_cmpstring", "slices.overlaps[folkmoot/files.entry]"], unfollowed := true, recurses := true, apart := false, narrowed := true }
def FilesAnewUptoSaid : Prop := filesAnewUptoRow.holds Try.pinned (OpenSpec.upto filesAnewSpec)

/-- 'folkmootlaw02.FilesChange', WHERE WHAT IT READS IS OF BULK AT MOST 1048576: true; the input reads as it did. -/
def filesChangeUptoRow : OpenClaim := { program := "ytdeggklfjdgfjaa", sum := "27aff7bdd4b8e69b578a0fb21df9e037691b0a0c8ab079f86070f5896ec2d1cb", func := "folkmoot/folkmootlaw02.FilesChange", spec := "filesChange", inPlace := ["internal/bytealg.abigen_runtime_cmpstring", "slices.overlaps[folkmoot/files.entry]"], unfollowed := true, recurses := true, apart := false, narrowed := true }
def FilesChangeUptoSaid : Prop := filesChangeUptoRow.holds Try.pinned (OpenSpec.upto filesChangeSpec)

/-- 'folkmootlaw02.FilesSum', WHERE WHAT IT READS IS OF BULK AT MOST 1048576: true; the input reads as it did. -/
def filesSumUptoRow : OpenClaim := { program := "ytdeggklfjdgfjaa", sum := "27aff7bdd4b8e69b578a0fb21df9e037691b0a0c8ab079f86070f5896ec2d1cb", func := "folkmoot/folkmootlaw02.FilesSum", spec := "filesSum", inPlace := ["internal/bytealg.abigen_runtime_cmpstring", "slices.overlaps[folkmoot/files.entry]"], unfollowed := true, recurses := true, apart := false, narrowed := true }
def FilesSumUptoSaid : Prop := filesSumUptoRow.holds Try.pinned (OpenSpec.upto filesSumSpec)

/-- 'folkmootlaw02.FilesBegin', WHERE WHAT IT READS IS OF BULK AT MOST 1048576: true; the input reads as it did. -/
def filesBeginUptoRow : OpenClaim := { program := "ytdeggklfjdgfjaa", sum := "27aff7bdd4b8e69b578a0fb21df9e037691b0a0c8ab079f86070f5896ec2d1cb", func := "folkmoot/folkmootlaw02.FilesBegin", spec := "filesBegin", inPlace := ["internal/bytealg.abigen_runtime_cmpstring", "slices.overlaps[folkmoot/files.entry]"], unfollowed := true, recurses := true, apart := false, narrowed := true }
def FilesBeginUptoSaid : Prop := filesBeginUptoRow.holds Try.pinned (OpenSpec.upto filesBeginSpec)

/-- 'folkmootlaw02.FilesCut', WHERE WHAT IT READS IS OF BULK AT MOST 1048576: true; the input reads as it did. -/
def filesCutUptoRow : OpenClaim := { program := "ytdeggklfjdgfjaa", sum := "27aff7bdd4b8e69b578a0fb21df9e037691b0a0c8ab079f86070f5896ec2d1cb", func := "folkmoot/folkmootlaw02.FilesCut", spec := "filesCut", inPlace := ["internal/bytealg.abigen_runtime_cmpstring", "slices.overlaps[folkmoot/files.entry]"], unfollowed := true, recurses := true, apart := false, narrowed := true }
def FilesCutUptoSaid : Prop := filesCutUptoRow.holds Try.pinned (OpenSpec.upto filesCutSpec)

end Rows
end Go.Proofs.Ytdeggklfjdgfjaa
