/-
  WHAT IS PROVED: what the row of NumsWritten tells of the program's form.
-/
import Derived.Test.YtfdjeaieddcgdabGreatDoorLaid7
import Derived.ProofKit
import Derived.OpenShut
namespace Go.Proofs.YtfdjeaieddcgdabGreatDoor.numsWritten
theorem closed7 : joinedFacts Tryz.prog 9 Tryz.f9 (OpenSpec.ofChange Rows.numsWrittenSpec).bare Rows.numsWrittenRow = true := by kernel_rfl
end Go.Proofs.YtfdjeaieddcgdabGreatDoor.numsWritten
