/-
  WHAT IS PROVED: what the listed variables give the words' functions; a world in which they lie as their initialisers lay them.
-/
import Derived.Test.YtenmnpbjnbdeaaaGreatDoorCards
import Derived.Test.YtenmnpbjnbdeaaaGreatDoorTie
import Derived.Test.YtenmnpbjnbdeaaaGreatDoorMd
import Derived.ProofKit
import Derived.OpenShut
import Derived.Deep.DeepHandedRow
import Derived.Lib.LaidTab
import Derived.LaidSub
import Derived.MakeChecks
import Derived.Lay
namespace Go.Proofs.YtenmnpbjnbdeaaaGreatDoor
open Go.RowKit Go.Lib

theorem max_of_shape6 {W : World} (h : W.ShapedOpen Tryz.prog) : ∃ m, W.cell? ⟨2, 0, none⟩ = some (.int .i64 m) :=
  cell_of_shapedOpen_int (zero := #[.int .i64 0]) (t := 3) h (of_decide_eq_true (by kernel_rfl)) (by kernel_rfl) rfl (by kernel_rfl) (by kernel_rfl) Tryz.underlying3

/-- an array of strings that reads as such: cell for cell -/
theorem cells_of_texts {H : Type} {enc : TypeId × Value → H} {P : Program} {w : World} {base : Nat} {sp : Nat → Bool} {held : Bool} {fuel : Nat} {t e : TypeId} {n : Nat} {cs : List Value} {ss : List (List UInt8)} {p : List MemPlace}
    (ht : P.underlying t = some (.array n e)) (he : P.underlying e = some .string) (hce : P.cellsOf e = 1) (hct : P.cellsOf t = n)
    (h : DataW.trod enc P w base sp held fuel t cs = some (.agg (ss.map fun s => .lit (.string s)), p)) : cs = ss.map fun s => Value.string ⟨s.toArray⟩ := by
  cases fuel with
  | zero => simp [DataW.trod] at h
  | succ fuel =>
    simp only [DataW.trod, ht, hce, hct, Nat.mul_one] at h
    split at h
    · rename_i hl
      obtain ⟨xs, hm, hx⟩ := Option.map_eq_some_iff.1 h
      have hxs : xs.map (·.1) = ss.map fun s => (DataW.lit (.string s) : DataW H) := by
        have := congrArg Prod.fst hx
        simpa using this
      have hxl : xs.length = n := by simpa using mapM_length hm
      have hzl : ss.length = n := by
        have := congrArg List.length hxs
        simp at this
        omega
      apply List.ext_getElem?
      intro i
      by_cases hi : i < n
      · obtain ⟨b, hb, hf⟩ := mapM_at hm i i (by simp [hi])
        obtain ⟨z, hc, hb2, _⟩ := DataW.trod_string he hf
        have h1 : cs[i]? = some (.string z) := by
          have := congrArg (·[0]?) hc
          simpa [List.getElem?_take, List.getElem?_drop] using this
        have h2 : (xs.map (·.1))[i]? = some b.1 := by simp [hb]
        rw [hxs] at h2
        have hb3 : b.1 = .lit (.string z.data.toList) := by rw [hb2]
        rw [hb3] at h2
        simp only [List.getElem?_map, Option.map_eq_some_iff, DataW.lit.injEq, Lit.string.injEq] at h2
        obtain ⟨s', hs', hs2⟩ := h2
        rw [h1]
        simp [hs', hs2]
      · rw [List.getElem?_eq_none (by omega), List.getElem?_eq_none (by simp; omega)]
    · cases h

theorem gSigns : Tryz.prog.globalNamed "folkmoot/words.signs" = some 0 := by kernel_rfl
theorem gSignsType : (Tryz.prog.globals[0]?).map (·.type) = some 187 := by kernel_rfl
theorem gRange : Tryz.prog.globalNamed "strconv.ErrRange" = some 6 := by kernel_rfl
theorem gRangeType : (Tryz.prog.globals[6]?).map (·.type) = some 129 := by kernel_rfl
def isSigns (x : String × DataW Unit) : Bool := x.1 == "folkmoot/words.signs"
def isRange (x : String × DataW Unit) : Bool := x.1 == "strconv.ErrRange"
theorem wo_of_laid {l : List (String × DataW Unit)} {W : World} (h1 : l.filter isSigns = [("folkmoot/words.signs", .agg (signsB.map fun s => .lit (.string s)))])
    (h2 : l.filter isRange = [("strconv.ErrRange", Rows.laid_strconv_ErrRange)]) (hL : laidMetH Tryz.prog l W) (hsh : W.ShapedOpen Tryz.prog) : Wo W := by
  refine ⟨?_, max_of_shape6 hsh, ?_⟩
  · have h := hL.filter isSigns
    rw [h1, MakeChecks.laidMetH_plain _ _ _ (by kernel_rfl)] at h
    obtain ⟨ps, ⟨g', t', cs, fuel, p, q, hg', ht', hvar, hd, _, _⟩, _⟩ := h
    obtain rfl := Option.some.inj (gSigns.symm.trans hg')
    obtain rfl := Option.some.inj (gSignsType.symm.trans ht')
    have hcs := cells_of_texts Tryz.underlying187 Tryz.underlying9 (by kernel_rfl) (by kernel_rfl) hd
    intro j hj
    have := World.var?_cell gSigns hvar j
    rw [this, ← Array.getElem?_toList, hcs]
    have hj' : j = 0 ∨ j = 1 ∨ j = 2 ∨ j = 3 ∨ j = 4 ∨ j = 5 ∨ j = 6 ∨ j = 7 ∨ j = 8 ∨ j = 9 ∨ j = 10 ∨ j = 11 ∨ j = 12 ∨ j = 13 ∨ j = 14 ∨ j = 15 := by omega
    rcases hj' with rfl | rfl | rfl | rfl | rfl | rfl | rfl | rfl | rfl | rfl | rfl | rfl | rfl | rfl | rfl | rfl <;> rfl
  · have h := hL.filter isRange
    rw [h2, MakeChecks.laidMetH_plain _ _ _ (by kernel_rfl)] at h
    obtain ⟨ps, ⟨g', t', cs, fuel, p, q, hg', ht', hvar, hd, _, _⟩, _⟩ := h
    obtain rfl := Option.some.inj (gRange.symm.trans hg')
    obtain rfl := Option.some.inj (gRangeType.symm.trans ht')
    obtain ⟨f', u, v, hcs, _, _⟩ := iface_of_trod Tryz.underlying129 hd
    have := World.var?_cell gRange hvar 0
    rw [← Array.getElem?_toList, hcs] at this
    exact ⟨.iface u v, this, .inr ⟨u, v, rfl⟩⟩

/-- a world in which all that is listed lies as its initialisers lay it -/
noncomputable def laidWorld6 (os : Os) (l : List (String × DataW Unit)) : World := World.laidAll Tryz.prog os l
theorem laid_met6 (os : Os) (l : List (String × DataW Unit)) (args : Array Value) (hf : (World.holding Tryz.prog os ⟨#[], #[], []⟩).layFits Tryz.prog l [] = true) (hi : (World.holding Tryz.prog os ⟨#[], #[], []⟩).layIfaces Tryz.prog l (World.laidAll Tryz.prog os l) = true) :
    laidMet Tryz.prog l ((laidWorld6 os l).forCall (fun _ _ => 0) ⟨#[], args, []⟩).memory := laidMet_laidAll args hf hi
theorem witness_row_zip {H : Type} {enc : TypeId × Value → H} {C : Checked} {os : Os} {f : FuncId} {fn : Func} {s : OpenSpec} {conds : List PathCond} {apart : Bool} {laid : List (String × DataW Unit)} (modest : Bool) (w0 : World) (args : Array Value) (hos : w0.os = os)
    (hv : (w0.forCall (fun _ _ => 0) ⟨#[], args, []⟩).variablesZipB C.prog = true)
    (hr : ((w0.forCall (fun _ _ => 0) ⟨#[], args, []⟩).heap.toList.drop C.prog.globals.size).take ((begin C.prog (fun _ _ => 0) default).world.heap.size - C.prog.globals.size) =
      (begin C.prog (fun _ _ => 0) default).world.heap.toList.drop C.prog.globals.size)
    (hok : Input.okWideB C.prog (w0.forCall (fun _ _ => 0) ⟨#[], args, []⟩) f ⟨#[], args, []⟩ = true)
    (hrow : s.preRow enc C.prog fn conds apart laid (w0.forCall (fun _ _ => 0) ⟨#[], args, []⟩).memory args) :
    ∃ (w : World) (tape : Tape) (i : Input), w.os = os ∧ (w.forCall tape i).Shaped C.prog ∧ i.vars = [] ∧ Input.okWide C.prog (w.forCall tape i) .any w.heap.size f i ∧
      s.preRow enc C.prog fn conds apart laid (w.forCall tape i).memory i.args ∧ ({ modest := modest } : Assume).holds C.prog (lone (Frame.enter C.prog f i.args .normal) [] (w.forCall tape i)) :=
  ⟨w0, fun _ _ => 0, ⟨#[], args, []⟩, hos, World.shaped_of_ZipB hv hr, (Input.okWide_of_okWideB (base := 0) hok).1, (Input.okWide_of_okWideB hok).2, hrow, by
    simp only [Assume.holds]
    exact ⟨by simp, by simp, fun _ => Modest.zero, by simp, by simp⟩⟩
end Go.Proofs.YtenmnpbjnbdeaaaGreatDoor
