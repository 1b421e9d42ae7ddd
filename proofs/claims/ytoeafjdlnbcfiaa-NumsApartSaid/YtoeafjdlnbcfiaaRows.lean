/-
  No cell of these rows narrows 'for every input' (looked for: loops, veiled, ifaces, maps, wideKeys, modest, calm, conditions, laid).
  DERIVED. THE GIVEN ROWS OF THIS SEAT. 7 by the template 'for every input the law returns true; each argument reads behind the call as it read before'; 0 by the template 'total and deterministic' (their statements: YtoeafjdlnbcfiaaTotals.lean).
  GIVEN WITH THE SEED: the statements are not yours to turn. If you find one false, say at which input.
  Laid BY PROGRAM, IN A SANDBOX (cutbox-rows.mjs): the forced cells as the released guide's own fill.sh prints them over the translation 523af5815e3c8c24… (all of the seat's roots in one cut). By AI agents, Wed Nov 11 2026. No macro, syntax, notation, axiom, sorry.
-/
import Derived.Test.YtoeafjdlnbcfiaaChecked
import GoSem.Claim
import GoSem.ClaimJoined
import GoSem.ClaimMapViews
import Derived.JoinedTies
import Derived.KernelRfl
namespace Go.Proofs.Ytoeafjdlnbcfiaa
/- THE CELL 'sum', in the pinned program and in every row, IS THE sha256 OF THE DUMP (.gsa) THAT YtoeafjdlnbcfiaaProg.lean LOADS. Nothing in Lean hashes anything: it is a label: what it is worth is what the hold of that sum in a sandbox is worth. -/
noncomputable def Try.pinned : Pinned := { name := "ytoeafjdlnbcfiaa", sum := "523af5815e3c8c24efd6f89b566a316f7a76a54f4f74e825e542025bd68f0f39", checked := Try.checked }
namespace Rows
def none {H : Type} : Left H := { results := [], args := [] }

/-- 'folkmootlaw01.NumsRead': WHATEVER THE INPUT: true; the input reads as it did. -/
def numsReadSpec : ChangeSpec := { name := "numsRead", fn := fun _ => fun
  | [d] => { results := [.lit (.bool true)], args := [d] }
  | _ => none }
def numsReadRow : OpenClaim := { program := "ytoeafjdlnbcfiaa", sum := "523af5815e3c8c24efd6f89b566a316f7a76a54f4f74e825e542025bd68f0f39", func := "folkmoot/folkmootlaw01.NumsRead", spec := "numsRead", unfollowed := true, recurses := true, apart := false }
def NumsReadSaid : Prop := numsReadRow.holds Try.pinned (OpenSpec.ofChange numsReadSpec)

/-- ITS FALSE NEIGHBOUR: 'it returns false'. Refute it at one input. -/
def numsReadWrong : ChangeSpec := { name := "numsRead", fn := fun _ => fun
  | [d] => { results := [.lit (.bool false)], args := [d] }
  | _ => none }
def NumsReadWrongFalsely : Prop := numsReadRow.holds Try.pinned (OpenSpec.ofChange numsReadWrong)

/-- 'folkmootlaw01.NumsDigits': WHATEVER THE INPUT: true; the input reads as it did. -/
def numsDigitsSpec : ChangeSpec := { name := "numsDigits", fn := fun _ => fun
  | [d] => { results := [.lit (.bool true)], args := [d] }
  | _ => none }
def numsDigitsRow : OpenClaim := { program := "ytoeafjdlnbcfiaa", sum := "523af5815e3c8c24efd6f89b566a316f7a76a54f4f74e825e542025bd68f0f39", func := "folkmoot/folkmootlaw01.NumsDigits", spec := "numsDigits", unfollowed := true, recurses := true, apart := false }
def NumsDigitsSaid : Prop := numsDigitsRow.holds Try.pinned (OpenSpec.ofChange numsDigitsSpec)

/-- ITS FALSE NEIGHBOUR: 'it returns false'. Refute it at one input. -/
def numsDigitsWrong : ChangeSpec := { name := "numsDigits", fn := fun _ => fun
  | [d] => { results := [.lit (.bool false)], args := [d] }
  | _ => none }
def NumsDigitsWrongFalsely : Prop := numsDigitsRow.holds Try.pinned (OpenSpec.ofChange numsDigitsWrong)

/-- 'folkmootlaw01.NumsCarry': WHATEVER THE INPUT: true; the input reads as it did. -/
def numsCarrySpec : ChangeSpec := { name := "numsCarry", fn := fun _ => fun
  | [d] => { results := [.lit (.bool true)], args := [d] }
  | _ => none }
def numsCarryRow : OpenClaim := { program := "ytoeafjdlnbcfiaa", sum := "523af5815e3c8c24efd6f89b566a316f7a76a54f4f74e825e542025bd68f0f39", func := "folkmoot/folkmootlaw01.NumsCarry", spec := "numsCarry", unfollowed := true, recurses := true, apart := false }
def NumsCarrySaid : Prop := numsCarryRow.holds Try.pinned (OpenSpec.ofChange numsCarrySpec)

/-- ITS FALSE NEIGHBOUR: 'it returns false'. Refute it at one input. -/
def numsCarryWrong : ChangeSpec := { name := "numsCarry", fn := fun _ => fun
  | [d] => { results := [.lit (.bool false)], args := [d] }
  | _ => none }
def NumsCarryWrongFalsely : Prop := numsCarryRow.holds Try.pinned (OpenSpec.ofChange numsCarryWrong)

/-- 'folkmootlaw01.NumsApart': WHATEVER THE INPUT: true; the input reads as it did. -/
def numsApartSpec : ChangeSpec := { name := "numsApart", fn := fun _ => fun
  | [d1, d2, d3] => { results := [.lit (.bool true)], args := [d1, d2, d3] }
  | _ => none }
def numsApartRow : OpenClaim := { program := "ytoeafjdlnbcfiaa", sum := "523af5815e3c8c24efd6f89b566a316f7a76a54f4f74e825e542025bd68f0f39", func := "folkmoot/folkmootlaw01.NumsApart", spec := "numsApart", unfollowed := true, recurses := true, apart := false }
def NumsApartSaid : Prop := numsApartRow.holds Try.pinned (OpenSpec.ofChange numsApartSpec)

/-- ITS FALSE NEIGHBOUR: 'it returns false'. Refute it at one input. -/
def numsApartWrong : ChangeSpec := { name := "numsApart", fn := fun _ => fun
  | [d1, d2, d3] => { results := [.lit (.bool false)], args := [d1, d2, d3] }
  | _ => none }
def NumsApartWrongFalsely : Prop := numsApartRow.holds Try.pinned (OpenSpec.ofChange numsApartWrong)

/-- 'folkmootlaw01.NumsTurned': WHATEVER THE INPUT: true; the input reads as it did. -/
def numsTurnedSpec : ChangeSpec := { name := "numsTurned", fn := fun _ => fun
  | [d1, d2] => { results := [.lit (.bool true)], args := [d1, d2] }
  | _ => none }
def numsTurnedRow : OpenClaim := { program := "ytoeafjdlnbcfiaa", sum := "523af5815e3c8c24efd6f89b566a316f7a76a54f4f74e825e542025bd68f0f39", func := "folkmoot/folkmootlaw01.NumsTurned", spec := "numsTurned", unfollowed := true, recurses := true, apart := false }
def NumsTurnedSaid : Prop := numsTurnedRow.holds Try.pinned (OpenSpec.ofChange numsTurnedSpec)

/-- ITS FALSE NEIGHBOUR: 'it returns false'. Refute it at one input. -/
def numsTurnedWrong : ChangeSpec := { name := "numsTurned", fn := fun _ => fun
  | [d1, d2] => { results := [.lit (.bool false)], args := [d1, d2] }
  | _ => none }
def NumsTurnedWrongFalsely : Prop := numsTurnedRow.holds Try.pinned (OpenSpec.ofChange numsTurnedWrong)

/-- 'folkmootlaw01.NumsLong': WHATEVER THE INPUT: true; the input reads as it did. -/
def numsLongSpec : ChangeSpec := { name := "numsLong", fn := fun _ => fun
  | [d] => { results := [.lit (.bool true)], args := [d] }
  | _ => none }
def numsLongRow : OpenClaim := { program := "ytoeafjdlnbcfiaa", sum := "523af5815e3c8c24efd6f89b566a316f7a76a54f4f74e825e542025bd68f0f39", func := "folkmoot/folkmootlaw01.NumsLong", spec := "numsLong", unfollowed := true, recurses := true, apart := false }
def NumsLongSaid : Prop := numsLongRow.holds Try.pinned (OpenSpec.ofChange numsLongSpec)

/-- ITS FALSE NEIGHBOUR: 'it returns false'. Refute it at one input. -/
def numsLongWrong : ChangeSpec := { name := "numsLong", fn := fun _ => fun
  | [d] => { results := [.lit (.bool false)], args := [d] }
  | _ => none }
def NumsLongWrongFalsely : Prop := numsLongRow.holds Try.pinned (OpenSpec.ofChange numsLongWrong)

/-- 'folkmootlaw01.NumsTexts': WHATEVER THE INPUT: true; the input reads as it did. -/
def numsTextsSpec : ChangeSpec := { name := "numsTexts", fn := fun _ => fun
  | [d1, d2] => { results := [.lit (.bool true)], args := [d1, d2] }
  | _ => none }
def numsTextsRow : OpenClaim := { program := "ytoeafjdlnbcfiaa", sum := "523af5815e3c8c24efd6f89b566a316f7a76a54f4f74e825e542025bd68f0f39", func := "folkmoot/folkmootlaw01.NumsTexts", spec := "numsTexts", unfollowed := true, recurses := true, apart := false }
def NumsTextsSaid : Prop := numsTextsRow.holds Try.pinned (OpenSpec.ofChange numsTextsSpec)

/-- ITS FALSE NEIGHBOUR: 'it returns false'. Refute it at one input. -/
def numsTextsWrong : ChangeSpec := { name := "numsTexts", fn := fun _ => fun
  | [d1, d2] => { results := [.lit (.bool false)], args := [d1, d2] }
  | _ => none }
def NumsTextsWrongFalsely : Prop := numsTextsRow.holds Try.pinned (OpenSpec.ofChange numsTextsWrong)

/- THE SECOND FORM. 'bulk': how many values and letters a reading holds, each counted each time it is reached (what is shared counts as often as it is met; a slice's spare places count too). A statement '..UptoSaid' is the law's where the arguments, and the package variables that the reading takes, are together of bulk at most 1048576: NARROWER than '..Said'. Prove '..Said' where nothing that the law and all that it calls make is longer than what came in: it says more and counts as full. Else prove '..UptoSaid'. A law counts once. -/
mutual
def uptoBulk {H : Type} : DataW H → Nat
  | .lit (.string bytes) => bytes.length + 1
  | .lit _ => 1
  | .nil => 1
  | .ptr d => uptoBulk d + 1
  | .slice elems spare => uptoBulkAll elems + uptoBulkAll spare + 1
  | .agg parts => uptoBulkAll parts + 1
  | .iface _ d => uptoBulk d + 1
  | .map entries => uptoBulkEntries entries + 1
  | .held _ => 1
def uptoBulkAll {H : Type} : List (DataW H) → Nat
  | [] => 0
  | d :: r => uptoBulk d + uptoBulkAll r
def uptoBulkEntries {H : Type} : List (Lit × DataW H) → Nat
  | [] => 0
  | x :: r => uptoBulkEntry x + uptoBulkEntries r
def uptoBulkEntry {H : Type} : Lit × DataW H → Nat
  | (.string bytes, d) => bytes.length + uptoBulk d + 1
  | (_, d) => uptoBulk d + 1
 end
def uptoSmall : (H : Type) → List (DataW H) → Bool := fun _ ds => decide (uptoBulkAll ds ≤ 1048576)
def OpenSpec.upto (s : _root_.Go.ChangeSpec) : _root_.Go.OpenSpec := { _root_.Go.OpenSpec.ofChange s with cond := some uptoSmall }

/-- 'folkmootlaw01.NumsRead', WHERE WHAT IT READS IS OF BULK AT MOST 1048576: true; the input reads as it did. -/
def numsReadUptoRow : OpenClaim := { program := "ytoeafjdlnbcfiaa", sum := "523af5815e3c8c24efd6f89b566a316f7a76a54f4f74e825e542025bd68f0f39", func := "folkmoot/folkmootlaw01.NumsRead", spec := "numsRead", unfollowed := true, recurses := true, apart := false, narrowed := true }
def NumsReadUptoSaid : Prop := numsReadUptoRow.holds Try.pinned (OpenSpec.upto numsReadSpec)

/-- 'folkmootlaw01.NumsDigits', WHERE WHAT IT READS IS OF BULK AT MOST 1048576: true; the input reads as it did. -/
def numsDigitsUptoRow : OpenClaim := { program := "ytoeafjdlnbcfiaa", sum := "523af5815e3c8c24efd6f89b566a316f7a76a54f4f74e825e542025bd68f0f39", func := "folkmoot/folkmootlaw01.NumsDigits", spec := "numsDigits", unfollowed := true, recurses := true, apart := false, narrowed := true }
def NumsDigitsUptoSaid : Prop := numsDigitsUptoRow.holds Try.pinned (OpenSpec.upto numsDigitsSpec)

/-- 'folkmootlaw01.NumsCarry', WHERE WHAT IT READS IS OF BULK AT MOST 1048576: true; the input reads as it did. -/
def numsCarryUptoRow : OpenClaim := { program := "ytoeafjdlnbcfiaa", sum := "523af5815e3c8c24efd6f89b566a316f7a76a54f4f74e825e542025bd68f0f39", func := "folkmoot/folkmootlaw01.NumsCarry", spec := "numsCarry", unfollowed := true, recurses := true, apart := false, narrowed := true }
def NumsCarryUptoSaid : Prop := numsCarryUptoRow.holds Try.pinned (OpenSpec.upto numsCarrySpec)

/-- 'folkmootlaw01.NumsApart', WHERE WHAT IT READS IS OF BULK AT MOST 1048576: true; the input reads as it did. -/
def numsApartUptoRow : OpenClaim := { program := "ytoeafjdlnbcfiaa", sum := "523af5815e3c8c24efd6f89b566a316f7a76a54f4f74e825e542025bd68f0f39", func := "folkmoot/folkmootlaw01.NumsApart", spec := "numsApart", unfollowed := true, recurses := true, apart := false, narrowed := true }
def NumsApartUptoSaid : Prop := numsApartUptoRow.holds Try.pinned (OpenSpec.upto numsApartSpec)

/-- 'folkmootlaw01.NumsTurned', WHERE WHAT IT READS IS OF BULK AT MOST 1048576: true; the input reads as it did. -/
def numsTurnedUptoRow : OpenClaim := { program := "ytoeafjdlnbcfiaa", sum := "523af5815e3c8c24efd6f89b566a316f7a76a54f4f74e825e542025bd68f0f39", func := "folkmoot/folkmootlaw01.NumsTurned", spec := "numsTurned", unfollowed := true, recurses := true, apart := false, narrowed := true }
def NumsTurnedUptoSaid : Prop := numsTurnedUptoRow.holds Try.pinned (OpenSpec.upto numsTurnedSpec)

/-- 'folkmootlaw01.NumsLong', WHERE WHAT IT READS IS OF BULK AT MOST 1048576: true; the input reads as it did. -/
def numsLongUptoRow : OpenClaim := { program := "ytoeafjdlnbcfiaa", sum := "523af5815e3c8c24efd6f89b566a316f7a76a54f4f74e825e542025bd68f0f39", func := "folkmoot/folkmootlaw01.NumsLong", spec := "numsLong", unfollowed := true, recurses := true, apart := false, narrowed := true }
def NumsLongUptoSaid : Prop := numsLongUptoRow.holds Try.pinned (OpenSpec.upto numsLongSpec)

/-- 'folkmootlaw01.NumsTexts', WHERE WHAT IT READS IS OF BULK AT MOST 1048576: true; the input reads as it did. -/
def numsTextsUptoRow : OpenClaim := { program := "ytoeafjdlnbcfiaa", sum := "523af5815e3c8c24efd6f89b566a316f7a76a54f4f74e825e542025bd68f0f39", func := "folkmoot/folkmootlaw01.NumsTexts", spec := "numsTexts", unfollowed := true, recurses := true, apart := false, narrowed := true }
def NumsTextsUptoSaid : Prop := numsTextsUptoRow.holds Try.pinned (OpenSpec.upto numsTextsSpec)

end Rows
end Go.Proofs.Ytoeafjdlnbcfiaa
