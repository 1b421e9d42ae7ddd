/-
  No cell of these rows narrows 'for every input' (looked for: loops, veiled, ifaces, maps, wideKeys, modest, calm, conditions, laid).
  DERIVED. THE GIVEN ROWS OF THIS SEAT. 6 by the template 'for every input the law returns true; each argument reads behind the call as it read before'; 0 by the template 'total and deterministic' (their statements: YtkmanpmaflpgoaaTotals.lean).
  GIVEN WITH THE SEED: the statements are not yours to turn. If you find one false, say at which input.
  Laid BY PROGRAM, IN A SANDBOX (cutbox-rows.mjs): the forced cells as the released guide's own fill.sh prints them over the translation ae89e327edb03ba5… (all of the seat's roots in one cut). By AI agents, Wed Nov 11 2026. No macro, syntax, notation, axiom, sorry.
-/
import Derived.Test.YtkmanpmaflpgoaaChecked
import GoSem.Claim
import GoSem.ClaimJoined
import GoSem.ClaimMapViews
import Derived.JoinedTies
import Derived.KernelRfl
namespace Go.Proofs.Ytkmanpmaflpgoaa
/- THE CELL 'sum', in the pinned program and in every row, IS THE sha256 OF THE DUMP (.gsa) THAT YtkmanpmaflpgoaaProg.lean LOADS. Nothing in Lean hashes anything: it is a label: what it is worth is what the hold of that sum in a sandbox is worth. -/
noncomputable def Try.pinned : Pinned := { name := "ytkmanpmaflpgoaa", sum := "ae89e327edb03ba57865a74887449d58c311dd23f845b7d8390895d2a640d7d4", checked := Try.checked }
namespace Rows
def none {H : Type} : Left H := { results := [], args := [] }

/-- 'folkmootlaw03.JournalsNil': WHATEVER THE INPUT: true; the input reads as it did. -/
def journalsNilSpec : ChangeSpec := { name := "journalsNil", fn := fun _ => fun
  | [d1, d2] => { results := [.lit (.bool true)], args := [d1, d2] }
  | _ => none }
def journalsNilRow : OpenClaim := { program := "ytkmanpmaflpgoaa", sum := "ae89e327edb03ba57865a74887449d58c311dd23f845b7d8390895d2a640d7d4", func := "folkmoot/folkmootlaw03.JournalsNil", spec := "journalsNil", inPlace := ["internal/bytealg.abigen_runtime_cmpstring", "slices.overlaps[folkmoot/files.entry]"], unfollowed := true, recurses := true, apart := false }
def JournalsNilSaid : Prop := journalsNilRow.holds Try.pinned (OpenSpec.ofChange journalsNilSpec)

/-- ITS FALSE NEIGHBOUR: 'it returns false'. Refute it at one input. -/
def journalsNilWrong : ChangeSpec := { name := "journalsNil", fn := fun _ => fun
  | [d1, d2] => { results := [.lit (.bool false)], args := [d1, d2] }
  | _ => none }
def JournalsNilWrongFalsely : Prop := journalsNilRow.holds Try.pinned (OpenSpec.ofChange journalsNilWrong)

/-- 'folkmootlaw03.JournalsAlike': WHATEVER THE INPUT: true; the input reads as it did. -/
def journalsAlikeSpec : ChangeSpec := { name := "journalsAlike", fn := fun _ => fun
  | [d1, d2] => { results := [.lit (.bool true)], args := [d1, d2] }
  | _ => none }
def journalsAlikeRow : OpenClaim := { program := "ytkmanpmaflpgoaa", sum := "ae89e327edb03ba57865a74887449d58c311dd23f845b7d8390895d2a640d7d4", func := "folkmoot/folkmootlaw03.JournalsAlike", spec := "journalsAlike", inPlace := ["internal/bytealg.abigen_runtime_cmpstring", "slices.overlaps[folkmoot/files.entry]"], unfollowed := true, recurses := true, apart := false }
def JournalsAlikeSaid : Prop := journalsAlikeRow.holds Try.pinned (OpenSpec.ofChange journalsAlikeSpec)

/-- ITS FALSE NEIGHBOUR: 'it returns false'. Refute it at one input. -/
def journalsAlikeWrong : ChangeSpec := { name := "journalsAlike", fn := fun _ => fun
  | [d1, d2] => { results := [.lit (.bool false)], args := [d1, d2] }
  | _ => none }
def JournalsAlikeWrongFalsely : Prop := journalsAlikeRow.holds Try.pinned (OpenSpec.ofChange journalsAlikeWrong)

/-- 'folkmootlaw03.JournalsJoin': WHATEVER THE INPUT: true; the input reads as it did. -/
def journalsJoinSpec : ChangeSpec := { name := "journalsJoin", fn := fun _ => fun
  | [d1, d2] => { results := [.lit (.bool true)], args := [d1, d2] }
  | _ => none }
def journalsJoinRow : OpenClaim := { program := "ytkmanpmaflpgoaa", sum := "ae89e327edb03ba57865a74887449d58c311dd23f845b7d8390895d2a640d7d4", func := "folkmoot/folkmootlaw03.JournalsJoin", spec := "journalsJoin", inPlace := ["internal/bytealg.abigen_runtime_cmpstring", "slices.overlaps[folkmoot/files.entry]"], unfollowed := true, recurses := true, apart := false }
def JournalsJoinSaid : Prop := journalsJoinRow.holds Try.pinned (OpenSpec.ofChange journalsJoinSpec)

/-- ITS FALSE NEIGHBOUR: 'it returns false'. Refute it at one input. -/
def journalsJoinWrong : ChangeSpec := { name := "journalsJoin", fn := fun _ => fun
  | [d1, d2] => { results := [.lit (.bool false)], args := [d1, d2] }
  | _ => none }
def JournalsJoinWrongFalsely : Prop := journalsJoinRow.holds Try.pinned (OpenSpec.ofChange journalsJoinWrong)

/-- 'folkmootlaw03.JournalsRefuse': WHATEVER THE INPUT: true; the input reads as it did. -/
def journalsRefuseSpec : ChangeSpec := { name := "journalsRefuse", fn := fun _ => fun
  | [d1, d2] => { results := [.lit (.bool true)], args := [d1, d2] }
  | _ => none }
def journalsRefuseRow : OpenClaim := { program := "ytkmanpmaflpgoaa", sum := "ae89e327edb03ba57865a74887449d58c311dd23f845b7d8390895d2a640d7d4", func := "folkmoot/folkmootlaw03.JournalsRefuse", spec := "journalsRefuse", inPlace := ["internal/bytealg.abigen_runtime_cmpstring", "slices.overlaps[folkmoot/files.entry]"], unfollowed := true, recurses := true, apart := false }
def JournalsRefuseSaid : Prop := journalsRefuseRow.holds Try.pinned (OpenSpec.ofChange journalsRefuseSpec)

/-- ITS FALSE NEIGHBOUR: 'it returns false'. Refute it at one input. -/
def journalsRefuseWrong : ChangeSpec := { name := "journalsRefuse", fn := fun _ => fun
  | [d1, d2] => { results := [.lit (.bool false)], args := [d1, d2] }
  | _ => none }
def JournalsRefuseWrongFalsely : Prop := journalsRefuseRow.holds Try.pinned (OpenSpec.ofChange journalsRefuseWrong)

/-- 'folkmootlaw03.JournalsTwo': WHATEVER THE INPUT: true; the input reads as it did. -/
def journalsTwoSpec : ChangeSpec := { name := "journalsTwo", fn := fun _ => fun
  | [d1, d2] => { results := [.lit (.bool true)], args := [d1, d2] }
  | _ => none }
def journalsTwoRow : OpenClaim := { program := "ytkmanpmaflpgoaa", sum := "ae89e327edb03ba57865a74887449d58c311dd23f845b7d8390895d2a640d7d4", func := "folkmoot/folkmootlaw03.JournalsTwo", spec := "journalsTwo", inPlace := ["internal/bytealg.abigen_runtime_cmpstring", "slices.overlaps[folkmoot/files.entry]"], unfollowed := true, recurses := true, apart := false }
def JournalsTwoSaid : Prop := journalsTwoRow.holds Try.pinned (OpenSpec.ofChange journalsTwoSpec)

/-- ITS FALSE NEIGHBOUR: 'it returns false'. Refute it at one input. -/
def journalsTwoWrong : ChangeSpec := { name := "journalsTwo", fn := fun _ => fun
  | [d1, d2] => { results := [.lit (.bool false)], args := [d1, d2] }
  | _ => none }
def JournalsTwoWrongFalsely : Prop := journalsTwoRow.holds Try.pinned (OpenSpec.ofChange journalsTwoWrong)

/-- 'folkmootlaw03.JournalsMend': WHATEVER THE INPUT: true; the input reads as it did. -/
def journalsMendSpec : ChangeSpec := { name := "journalsMend", fn := fun _ => fun
  | [d1, d2, d3] => { results := [.lit (.bool true)], args := [d1, d2, d3] }
  | _ => none }
def journalsMendRow : OpenClaim := { program := "ytkmanpmaflpgoaa", sum := "ae89e327edb03ba57865a74887449d58c311dd23f845b7d8390895d2a640d7d4", func := "folkmoot/folkmootlaw03.JournalsMend", spec := "journalsMend", inPlace := ["internal/bytealg.abigen_runtime_cmpstring", "slices.overlaps[folkmoot/files.entry]"], unfollowed := true, recurses := true, apart := false }
def JournalsMendSaid : Prop := journalsMendRow.holds Try.pinned (OpenSpec.ofChange journalsMendSpec)

/-- ITS FALSE NEIGHBOUR: 'it returns false'. Refute it at one input. -/
def journalsMendWrong : ChangeSpec := { name := "journalsMend", fn := fun _ => fun
  | [d1, d2, d3] => { results := [.lit (.bool false)], args := [d1, d2, d3] }
  | _ => none }
def JournalsMendWrongFalsely : Prop := journalsMendRow.holds Try.pinned (OpenSpec.ofChange journalsMendWrong)

/- THE SECOND FORM. 'bulk': how many values and letters a reading holds, each counted each time it is reached (what is shared counts as often as it is met; a slice's spare places count too). A statement '..UptoSaid' is the law's where the arguments, and the package variables that the reading takes, are together of bulk at most 1048576: NARROWER than '..Said'. Prove '..Said' where nothing that the law and all that it calls make is longer than what came in: it says more and counts as full. Else prove '..UptoSaid'. A law counts once. -/
mutual
def uptoBulk {H : Type} : DataW H → Nat
  | .lit (.string bytes) => bytes.length + 1
  | .lit _ => 1
  | .nil => 1
  | .ptr d => uptoBulk d + 1
  | .slice elems spare => uptoBulkAll elems + uptoBulkAll spare + 1
  | .agg parts => uptoBulkAll parts + 1
  | .iface _ d => uptoBulk d + 1
  | .map entries => uptoBulkEntries entries + 1
  | .held _ => 1
def uptoBulkAll {H : Type} : List (DataW H) → Nat
  | [] => 0
  | d :: r => uptoBulk d + uptoBulkAll r
def uptoBulkEntries {H : Type} : List (Lit × DataW H) → Nat
  | [] => 0
  | x :: r => uptoBulkEntry x + uptoBulkEntries r
def uptoBulkEntry {H : Type} : Lit × DataW H → Nat
  | (.string bytes, d) => bytes.length + uptoBulk d + 1
  | (_, d) => uptoBulk d + 1
 end
def uptoSmall : (H : Type) → List (DataW H) → Bool := fun _ ds => decide (uptoBulkAll ds ≤ 1048576)
def OpenSpec.upto (s : _root_.Go.ChangeSpec) : _root_.Go.OpenSpec := { _root_.Go.OpenSpec.ofChange s with cond := some uptoSmall }

/-- 'folkmootlaw03.JournalsNil', WHERE WHAT IT READS IS OF BULK AT MOST 1048576: true; the input reads as it did. -/
def journalsNilUptoRow : OpenClaim := { program := "ytkmanpmaflpgoaa", sum := "ae89e327edb03ba57865a74887449d58c311dd23f845b7d8390895d2a640d7d4", func := "folkmoot/folkmootlaw03.JournalsNil", spec := "journalsNil", inPlace := ["internal/bytealg.abigen_runtime_cmpstring", "slices.overlaps[folkmoot/files.entry]"], unfollowed := true, recurses := true, apart := false, narrowed := true }
def JournalsNilUptoSaid : Prop := journalsNilUptoRow.holds Try.pinned (OpenSpec.upto journalsNilSpec)

/-- 'folkmootlaw03.JournalsAlike', WHERE WHAT IT READS IS OF BULK AT MOST 1048576: true; the input reads as it did. -/
def journalsAlikeUptoRow : OpenClaim := { program := "ytkmanpmaflpgoaa", sum := "ae89e327edb03ba57865a74887449d58c311dd23f845b7d8390895d2a640d7d4", func := "folkmoot/folkmootlaw03.JournalsAlike", spec := "journalsAlike", inPlace := ["internal/bytealg.abigen_runtime_cmpstring", "slices.overlaps[folkmoot/files.entry]"], unfollowed := true, recurses := true, apart := false, narrowed := true }
def JournalsAlikeUptoSaid : Prop := journalsAlikeUptoRow.holds Try.pinned (OpenSpec.upto journalsAlikeSpec)

/-- 'folkmootlaw03.JournalsJoin', WHERE WHAT IT READS IS OF BULK AT MOST 1048576: true; the input reads as it did. -/
def journalsJoinUptoRow : OpenClaim := { program := "ytkmanpmaflpgoaa", sum := "ae89e327edb03ba57865a74887449d58c311dd23f845b7d8390895d2a640d7d4", func := "folkmoot/folkmootlaw03.JournalsJoin", spec := "journalsJoin", inPlace := ["internal/bytealg.abigen_runtime_cmpstring", "slices.overlaps[folkmoot/files.entry]"], unfollowed := true, recurses := true, apart := false, narrowed := true }
def JournalsJoinUptoSaid : Prop := journalsJoinUptoRow.holds Try.pinned (OpenSpec.upto journalsJoinSpec)

/-- 'folkmootlaw03.JournalsRefuse', WHERE WHAT IT READS IS OF BULK AT MOST 1048576: true; the input reads as it did. -/
def journalsRefuseUptoRow : OpenClaim := { program := "ytkmanpmaflpgoaa", sum := "ae89e327edb03ba57865a74887449d58c311dd23f845b7d8390895d2a640d7d4", func := "folkmoot/folkmootlaw03.JournalsRefuse", spec := "journalsRefuse", inPlace := ["internal/bytealg.abigen_runtime_cmpstring", "slices.overlaps[folkmoot/files.entry]"], unfollowed := true, recurses := true, apart := false, narrowed := true }
def JournalsRefuseUptoSaid : Prop := journalsRefuseUptoRow.holds Try.pinned (OpenSpec.upto journalsRefuseSpec)

/-- 'folkmootlaw03.JournalsTwo', WHERE WHAT IT READS IS OF BULK AT MOST 1048576: true; the input reads as it did. -/
def journalsTwoUptoRow : OpenClaim := { program := "ytkmanpmaflpgoaa", sum := "ae89e327edb03ba57865a74887449d58c311dd23f845b7d8390895d2a640d7d4", func := "folkmoot/folkmootlaw03.JournalsTwo", spec := "journalsTwo", inPlace := ["internal/bytealg.abigen_runtime_cmpstring", "slices.overlaps[folkmoot/files.entry]"], unfollowed := true, recurses := true, apart := false, narrowed := true }
def JournalsTwoUptoSaid : Prop := journalsTwoUptoRow.holds Try.pinned (OpenSpec.upto journalsTwoSpec)

/-- 'folkmootlaw03.JournalsMend', WHERE WHAT IT READS IS OF BULK AT MOST 1048576: true; the input reads as it did. -/
def journalsMendUptoRow : OpenClaim := { program := "ytkmanpmaflpgoaa", sum := "ae89e327edb03ba57865a74887449d58c311dd23f845b7d8390895d2a640d7d4", func := "folkmoot/folkmootlaw03.JournalsMend", spec := "journalsMend", inPlace := ["internal/bytealg.abigen_runtime_cmpstring", "slices.overlaps[folkmoot/files.entry]"], unfollowed := true, recurses := true, apart := false, narrowed := true }
def JournalsMendUptoSaid : Prop := journalsMendUptoRow.holds Try.pinned (OpenSpec.upto journalsMendSpec)

end Rows
end Go.Proofs.Ytkmanpmaflpgoaa
