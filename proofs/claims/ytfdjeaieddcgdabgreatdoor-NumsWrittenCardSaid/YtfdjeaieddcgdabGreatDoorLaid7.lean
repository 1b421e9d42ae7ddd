/-
  WHAT IS PROVED: a world in which they lie as their initialisers lay them.
-/
import Derived.Test.YtfdjeaieddcgdabGreatDoorCards
import Derived.Test.YtfdjeaieddcgdabGreatDoorTie
import Derived.Test.YtfdjeaieddcgdabGreatDoorKit
import Derived.ProofKit
import Derived.OpenShut
import Derived.Deep.DeepHandedRow
import Derived.Lib.LaidTab
import Derived.LaidSub
import Derived.MakeChecks
import Derived.Lay
namespace Go.Proofs.YtfdjeaieddcgdabGreatDoor
open Go.RowKit Go.Lib

/-- a world in which all that is listed lies as its initialisers lay it -/
noncomputable def laidWorld6 (os : Os) (l : List (String × DataW Unit)) : World := World.laidAll Tryz.prog os l
theorem laid_met6 (os : Os) (l : List (String × DataW Unit)) (args : Array Value) (hf : (World.holding Tryz.prog os ⟨#[], #[], []⟩).layFits Tryz.prog l [] = true) (hi : (World.holding Tryz.prog os ⟨#[], #[], []⟩).layIfaces Tryz.prog l (World.laidAll Tryz.prog os l) = true) :
    laidMet Tryz.prog l ((laidWorld6 os l).forCall (fun _ _ => 0) ⟨#[], args, []⟩).memory := laidMet_laidAll args hf hi
theorem witness_row_zip {H : Type} {enc : TypeId × Value → H} {C : Checked} {os : Os} {f : FuncId} {fn : Func} {s : OpenSpec} {conds : List PathCond} {apart : Bool} {laid : List (String × DataW Unit)} (modest : Bool) (w0 : World) (args : Array Value) (hos : w0.os = os)
    (hv : (w0.forCall (fun _ _ => 0) ⟨#[], args, []⟩).variablesZipB C.prog = true)
    (hr : ((w0.forCall (fun _ _ => 0) ⟨#[], args, []⟩).heap.toList.drop C.prog.globals.size).take ((begin C.prog (fun _ _ => 0) default).world.heap.size - C.prog.globals.size) =
      (begin C.prog (fun _ _ => 0) default).world.heap.toList.drop C.prog.globals.size)
    (hok : Input.okWideB C.prog (w0.forCall (fun _ _ => 0) ⟨#[], args, []⟩) f ⟨#[], args, []⟩ = true)
    (hrow : s.preRow enc C.prog fn conds apart laid (w0.forCall (fun _ _ => 0) ⟨#[], args, []⟩).memory args) :
    ∃ (w : World) (tape : Tape) (i : Input), w.os = os ∧ (w.forCall tape i).Shaped C.prog ∧ i.vars = [] ∧ Input.okWide C.prog (w.forCall tape i) .any w.heap.size f i ∧
      s.preRow enc C.prog fn conds apart laid (w.forCall tape i).memory i.args ∧ ({ modest := modest } : Assume).holds C.prog (lone (Frame.enter C.prog f i.args .normal) [] (w.forCall tape i)) :=
  ⟨w0, fun _ _ => 0, ⟨#[], args, []⟩, hos, World.shaped_of_ZipB hv hr, (Input.okWide_of_okWideB (base := 0) hok).1, (Input.okWide_of_okWideB hok).2, hrow, by
    simp only [Assume.holds]
    exact ⟨by simp, by simp, fun _ => Modest.zero, by simp, by simp⟩⟩
end Go.Proofs.YtfdjeaieddcgdabGreatDoor
