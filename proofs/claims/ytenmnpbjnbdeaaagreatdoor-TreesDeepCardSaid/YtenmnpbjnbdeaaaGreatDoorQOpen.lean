/-
  WHAT IS PROVED: arguments opened: a struct of one-cell fields, an array, a slice of structs; and that each string of them lies within the form's own reach.
-/
import Derived.SizedLaws
import Derived.OpenShut
import Derived.ChangeArms
import Derived.Deep.Fields
import Derived.Deep.Slices
import Derived.Test.YtenmnpbjnbdeaaaGreatDoorMa
namespace Go.Proofs.YtenmnpbjnbdeaaaGreatDoor
open Go.RowKit Go.ChangeShapes Go.WideShapes Go.Deep

section
variable {H : Type} {enc : TypeId × Value → H} {P : Program} {w : World} {base : Nat} {spare : Nat → Bool} {held : Bool}

/-- what is read lies within a reach -/
def Within (P : Program) (R : Nat) (t : TypeId) (d : DataW H) : Prop := ∀ n ∈ d.weights P t, n ≤ R

theorem within_arg {ts : List TypeId} {ds : List (DataW H)} {R : Nat} (h : (DataW.weightsEach P ts ds).all (· ≤ R) = true) {j : Nat} {t : TypeId} {d : DataW H} (ht : ts[j]? = some t) (hd : ds[j]? = some d) : Within P R t d :=
  fun n hn => of_decide_eq_true (List.all_eq_true.1 h _ (DataW.weights_mem_each ht hd n hn))
/-- a struct's fields -/
structure Fielded (enc : TypeId × Value → H) (P : Program) (w : World) (base : Nat) (spare : Nat → Bool) (held : Bool) (fs : Array Field) (l : List Value) (ds : List (DataW H)) : Prop where
  len : l.length = fs.size
  field : ∀ (j : Nat) (f : Field), fs[j]? = some f → ∃ c d ps n, l[j]? = some c ∧ ds[j]? = some d ∧ DataW.trod enc P w base spare held n f.type [c] = some (d, ps)

theorem Fielded.int {fs : Array Field} {l : List Value} {ds : List (DataW H)} (h : Fielded enc P w base spare held fs l ds) {j : Nat} {f : Field} (hf : fs[j]? = some f) {k : IntKind} (hu : P.underlying f.type = some (.int k)) :
    ∃ a : Int, l[j]? = some (.int k a) ∧ (Lit.int k a).wf = true := by
  obtain ⟨c, d, ps, n, h1, h2, h3⟩ := h.field j f hf
  obtain ⟨a, e1, e2, e3⟩ := DataW.trod_int hu h3
  simp only [List.cons.injEq, and_true] at e1
  exact ⟨a, by rw [h1, e1], e3⟩
theorem Fielded.bool {fs : Array Field} {l : List Value} {ds : List (DataW H)} (h : Fielded enc P w base spare held fs l ds) {j : Nat} {f : Field} (hf : fs[j]? = some f) (hu : P.underlying f.type = some .bool) :
    ∃ b : Bool, l[j]? = some (.bool b) := by
  obtain ⟨c, d, ps, n, h1, h2, h3⟩ := h.field j f hf
  obtain ⟨b, e1, e2⟩ := DataW.trod_bool hu h3
  simp only [List.cons.injEq, and_true] at e1
  exact ⟨b, by rw [h1, e1]⟩

/-- a field that is a slice of bytes -/
theorem bytes_row {w : World} {n : Nat} {c : Value} {d : DataW H} {ps : List MemPlace} (h : DataW.trod enc Tryz.prog w base (fun _ => true) held n 97 [c] = some (d, ps)) : ∃ ao k cap z, c = .slice ao k cap ∧ Row8 w ao k cap z := by
  rcases open_ints Tryz.underlying97 Tryz.underlying5 (by kernel_rfl) h with ⟨hcs, _⟩ | ⟨x, l, k, zs, hcs, _, hl, hm, hz, _, hcell, hwz⟩
  · simp only [List.cons.injEq, and_true] at hcs
    exact ⟨_, _, _, _, hcs, row_nil w⟩
  · simp only [List.cons.injEq, and_true] at hcs
    exact ⟨_, _, _, _, hcs, row_in w _ _ _ zs hl hm (by simpa using hz) hcell hwz⟩
theorem Fielded.bytes {fs : Array Field} {l : List Value} {ds : List (DataW H)} (h : Fielded enc Tryz.prog w base (fun _ => true) held fs l ds) {j : Nat} {f : Field} (hf : fs[j]? = some f) (hu : f.type = 97) :
    ∃ ao k cap z, l[j]? = some (.slice ao k cap) ∧ Row8 w ao k cap z := by
  obtain ⟨c, d, ps, n, h1, h2, h3⟩ := h.field j f hf
  rw [hu] at h3
  obtain ⟨ao, k, cap, z, e1, e2⟩ := bytes_row h3
  exact ⟨ao, k, cap, z, by rw [h1, e1], e2⟩

/-- an array of one-cell elements -/
theorem open_elems {r : Reach} {b0 : Nat} {t e : TypeId} {k : Nat} {v : Value} {d : DataW H} {p : List MemPlace} (hs : P.underlying t = some (.array k e)) (hone : P.cellsOf e = 1) (hC : P.cellsOf t = k)
    (hv : Value.okWide P w r b0 t v) (h : DataW.Trod enc P w base spare held t v d p) : ∃ (l : List Value) (ds : List (DataW H)), v = .agg l.toArray ∧ d = .agg ds ∧ l.length = k ∧ ∀ j, j < k → ∃ c x ps n, l[j]? = some c ∧ ds[j]? = some x ∧ DataW.trod enc P w base spare held n e [c] = some (x, ps) := by
  unfold Value.okWide at hv
  rw [hs] at hv
  obtain ⟨cs, rfl, hsz, _⟩ := hv
  obtain ⟨fuel, hf⟩ := h
  obtain ⟨xs, m, _, hd, hl, hx, hi⟩ := Go.DataW.trod_array hs hf
  rw [hC] at hl
  have hl' : cs.toList.length = k := hl
  refine ⟨cs.toList, xs.map (·.1), by simp, by simpa using congrArg Prod.fst hd, hl', fun j hj => ?_⟩
  have h1 := hi j hj
  rw [hone, Nat.mul_one] at h1
  have hxj : xs[j]? = some (xs[j]'(by omega)) := List.getElem?_eq_getElem _
  have hlj : cs.toList[j]? = some (cs.toList[j]'(by omega)) := List.getElem?_eq_getElem _
  have e1 : ((Value.agg cs).cells.toList.drop j).take 1 = [cs.toList[j]'(by omega)] := by
    show (cs.toList.drop j).take 1 = _
    rw [List.drop_eq_getElem_cons (by omega)]; rfl
  rw [e1, hxj] at h1
  exact ⟨_, _, (xs[j]'(by omega)).2, m, hlj, by rw [List.getElem?_map, hxj]; rfl, h1⟩

theorem two_of {l : List Value} {a b : Value} (hl : l.length = 2) (h0 : l[0]? = some a) (h1 : l[1]? = some b) : l = [a, b] := by
  match l, hl with
  | [x, y], _ => simp at h0 h1; rw [h0, h1]
theorem three_of {l : List Value} {a b c : Value} (hl : l.length = 3) (h0 : l[0]? = some a) (h1 : l[1]? = some b) (h2 : l[2]? = some c) : l = [a, b, c] := by
  match l, hl with
  | [x, y, z], _ => simp at h0 h1 h2; rw [h0, h1, h2]
end
end Go.Proofs.YtenmnpbjnbdeaaaGreatDoor
