/-
  WHAT IS PROVED: FilesAnew: whatever the input, the Go function returns true, and each argument reads behind the call as it read before; no condition.
-/
import Derived.Test.YtdeggklfjdgfjaaLAnew
import Derived.Test.YtdeggklfjdgfjaaOpen
import Derived.ProofKit
import Derived.OpenShut
import Derived.ShutString
import Derived.ChangeOld
import Derived.SliceStrings
namespace Go.Proofs.Ytdeggklfjdgfjaa.filesAnew
open Go.ChangeShapes Go.WideShapes Go.ChangeAt Go.RowKit
open Go.ChangeMaps (open_string shut_string)
set_option linter.unusedVariables false

theorem own : ownKnob Try.prog.godebug = none := by kernel_rfl
theorem laidOut : laidOutB Try.prog = true := by kernel_rfl

set_option maxRecDepth 100000 in
theorem lifted (os : Os) (started : os.Started) (H : Type) (enc : TypeId × Value → H) :
    ReturnsInHanded {} Try.checked os 5 .any (Rows.filesAnewSpec.pre6 enc Try.prog Try.f5 Rows.filesAnewRow.domain false) (Rows.filesAnewSpec.post enc Try.prog Try.f5 false true false false) := by
  refine returnsInHanded_of_change_sized (C := Try.checked) own started (by kernel_rfl) Try.func5
    (ChangeSpec.witness6 (enc := enc) (C := Try.checked) false ⟨#[], #[.agg #[.string ByteArray.empty, .string ByteArray.empty], .int .u8 0], []⟩ 8 (by kernel_rfl) (by kernel_rfl) (by kernel_rfl) (by kernel_rfl)) ?_
  intro W base args ds gs before hval0 hW hcnd hsz0 _
  have hval : ∀ (j : Nat) t v, Try.f5.params[j]? = some t → args[j]? = some v → Value.okWide Try.prog W .any base t v := hval0
  have hW' := hW
  obtain ⟨p, q, hA0, hV, rfl, hfz, hnd⟩ := hW
  have hA : DataW.TrodAll enc Try.prog W 0 (fun _ => true) true Try.f5.params.toList args.toList ds p := hA0
  have hsz : (DataW.weightsEach Try.prog (Try.f5.params.toList ++ Rows.filesAnewSpec.plain.varTypes Try.prog) (ds ++ gs)).all (· ≤ reachBytes) = true := hsz0
  rw [Try.params5] at hA hval hsz
  obtain ⟨v0, vs0, d0, ds0, p0, q0, hargs, rfl, rfl, h0, r0⟩ := trodAll_cons hA
  obtain ⟨v1, vs1, d1, ds1, p1, q1, rfl, rfl, rfl, h1, r1⟩ := trodAll_cons r0
  obtain ⟨rfl, rfl, rfl⟩ := trodAll_nil r1
  obtain rfl : args = #[v0, v1] := by cases args; simp_all
  obtain ⟨rfl, rfl⟩ := trodVars_none hV
  have k0 := h0
  have lt0 : ∀ x ∈ p0, x.block < W.heap.size := by obtain ⟨m, hm⟩ := k0; exact DataW.trod_lt m _ _ _ hm
  have z0 : Within Try.prog reachBytes 53 d0 := within_arg hsz (j := 0) rfl rfl
  obtain ⟨l0, e0, rfl, rfl, n0, F0⟩ := open_elems Try.underlying53 (by kernel_rfl) (by kernel_rfl) (hval 0 53 v0 rfl rfl) h0
  obtain ⟨x0_0, y0_0, s0_0, m0_0, c0_0, g0_0, t0_0⟩ := F0 0 (by omega)
  obtain ⟨a0_0, u0_0, b0_0, _⟩ := DataW.trod_string Try.underlying9 t0_0
  simp only [List.cons.injEq, and_true] at u0_0
  simp only [Prod.mk.injEq] at b0_0
  obtain ⟨b0_0, _⟩ := b0_0
  subst u0_0 b0_0
  have w0_0 := within_string (within_elem z0 Try.underlying53 (List.mem_of_getElem? g0_0))
  obtain ⟨x0_1, y0_1, s0_1, m0_1, c0_1, g0_1, t0_1⟩ := F0 1 (by omega)
  obtain ⟨a0_1, u0_1, b0_1, _⟩ := DataW.trod_string Try.underlying9 t0_1
  simp only [List.cons.injEq, and_true] at u0_1
  simp only [Prod.mk.injEq] at b0_1
  obtain ⟨b0_1, _⟩ := b0_1
  subst u0_1 b0_1
  have w0_1 := within_string (within_elem z0 Try.underlying53 (List.mem_of_getElem? g0_1))
  obtain rfl := two_of n0 c0_0 c0_1
  have k1 := h1
  have lt1 : ∀ x ∈ p1, x.block < W.heap.size := by obtain ⟨m, hm⟩ := k1; exact DataW.trod_lt m _ _ _ hm
  have z1 : Within Try.prog reachBytes 5 d1 := within_arg hsz (j := 1) rfl rfl
  obtain ⟨a1, rfl, hd1, hp1, w1⟩ := open_int Try.underlying5 (hval 1 5 v1 rfl rfl) h1
  clear hA0 hval0
  refine (walk_FilesAnew a0_0 a0_1 w0_0 w0_1 a1 w1 (w := W)).mono fun e W' ⟨he, bel⟩ => ?_
  subst he
  exact ⟨_, rfl, _, _, _, [], _, [], hW', trodAll_mk1 (shut_bool Try.underlying4 _), (trodAll_cons_mk (Below.trod laidOut (by kernel_rfl) (of_decide_eq_true (by kernel_rfl)) k0 bel lt0) (trodAll_cons_mk (Below.trod laidOut (by kernel_rfl) (of_decide_eq_true (by kernel_rfl)) k1 bel lt1) trodAll_mk0)), rfl, bel.frame _, fun h => by cases h⟩

theorem over : Rows.filesAnewRow.holds Try.pinned (OpenSpec.ofChange Rows.filesAnewSpec) :=
  OpenClaim.holds_of_wide 5 Try.f5 rfl rfl rfl rfl rfl rfl rfl ⟨rfl, rfl, rfl, rfl, rfl⟩ rfl rfl rfl rfl rfl (by kernel_rfl) Try.func5 (by kernel_rfl)
    (of_decide_eq_true (by kernel_rfl)) (by unfold Func.isWrapper; first | (rw [if_pos (by decide +kernel)]; kernel_rfl) | (rw [if_neg (by decide +kernel)]; exact ⟨rfl, rfl⟩))
    (fun os started H enc _ => lifted os started H enc)

theorem proved : Rows.FilesAnewSaid := over
end Go.Proofs.Ytdeggklfjdgfjaa.filesAnew
