/-
  WHAT IS PROVED: FilesInstead: whatever the input, the Go function returns true, and each argument reads behind the call as it read before; no condition.
-/
import Derived.Test.YtdeggklfjdgfjaaLInstead
import Derived.Test.YtdeggklfjdgfjaaOpen
import Derived.ProofKit
import Derived.OpenShut
import Derived.ShutString
import Derived.ChangeOld
import Derived.SliceStrings
namespace Go.Proofs.Ytdeggklfjdgfjaa.filesInstead
open Go.ChangeShapes Go.WideShapes Go.ChangeAt Go.RowKit
open Go.ChangeMaps (open_string shut_string)
set_option linter.unusedVariables false

theorem own : ownKnob Try.prog.godebug = none := by kernel_rfl
theorem laidOut : laidOutB Try.prog = true := by kernel_rfl

set_option maxRecDepth 100000 in
theorem lifted (os : Os) (started : os.Started) (H : Type) (enc : TypeId × Value → H) :
    ReturnsInHanded {} Try.checked os 4 .any (Rows.filesInsteadSpec.pre6 enc Try.prog Try.f4 Rows.filesInsteadRow.domain false) (Rows.filesInsteadSpec.post enc Try.prog Try.f4 false true false false) := by
  refine returnsInHanded_of_change_sized (C := Try.checked) own started (by kernel_rfl) Try.func4
    (ChangeSpec.witness6 (enc := enc) (C := Try.checked) false ⟨#[], #[.agg #[.string ByteArray.empty, .string ByteArray.empty, .int .u8 0, .int .i64 0, .bool false]], []⟩ 8 (by kernel_rfl) (by kernel_rfl) (by kernel_rfl) (by kernel_rfl)) ?_
  intro W base args ds gs before hval0 hW hcnd hsz0 _
  have hval : ∀ (j : Nat) t v, Try.f4.params[j]? = some t → args[j]? = some v → Value.okWide Try.prog W .any base t v := hval0
  have hW' := hW
  obtain ⟨p, q, hA0, hV, rfl, hfz, hnd⟩ := hW
  have hA : DataW.TrodAll enc Try.prog W 0 (fun _ => true) true Try.f4.params.toList args.toList ds p := hA0
  have hsz : (DataW.weightsEach Try.prog (Try.f4.params.toList ++ Rows.filesInsteadSpec.plain.varTypes Try.prog) (ds ++ gs)).all (· ≤ reachBytes) = true := hsz0
  rw [Try.params4] at hA hval hsz
  obtain ⟨v0, vs0, d0, ds0, p0, q0, hargs, rfl, rfl, h0, r0⟩ := trodAll_cons hA
  obtain ⟨rfl, rfl, rfl⟩ := trodAll_nil r0
  obtain rfl : args = #[v0] := by cases args; simp_all
  obtain ⟨rfl, rfl⟩ := trodVars_none hV
  have k0 := h0
  have lt0 : ∀ x ∈ p0, x.block < W.heap.size := by obtain ⟨m, hm⟩ := k0; exact DataW.trod_lt m _ _ _ hm
  have z0 : Within Try.prog reachBytes 48 d0 := within_arg hsz (j := 0) rfl rfl
  obtain ⟨l0, e0, rfl, rfl, F0⟩ := open_fielded Try.underlying48 (by kernel_rfl) (by kernel_rfl) (hval 0 48 v0 rfl rfl) h0
  obtain ⟨a0_0, c0_0, g0_0, _⟩ := F0.str (j := 0) rfl Try.underlying9
  have w0_0 := within_string (within_field z0 Try.underlying48 (j := 0) rfl g0_0)
  obtain ⟨a0_1, c0_1, g0_1, _⟩ := F0.str (j := 1) rfl Try.underlying9
  have w0_1 := within_string (within_field z0 Try.underlying48 (j := 1) rfl g0_1)
  obtain ⟨a0_2, c0_2, w0_2⟩ := F0.int (j := 2) rfl Try.underlying5
  obtain ⟨a0_3, c0_3, w0_3⟩ := F0.int (j := 3) rfl Try.underlying3
  obtain ⟨a0_4, c0_4⟩ := F0.bool (j := 4) rfl Try.underlying4
  obtain rfl := five_of F0.len c0_0 c0_1 c0_2 c0_3 c0_4
  clear hA0 hval0
  refine (walk_FilesInstead a0_0 a0_1 a0_2 a0_3 a0_4 w0_0 w0_1 w0_2 w0_3 (w := W)).mono fun e W' ⟨he, bel⟩ => ?_
  subst he
  exact ⟨_, rfl, _, _, _, [], _, [], hW', trodAll_mk1 (shut_bool Try.underlying4 _), (trodAll_cons_mk (Below.trod laidOut (by kernel_rfl) (of_decide_eq_true (by kernel_rfl)) k0 bel lt0) trodAll_mk0), rfl, bel.frame _, fun h => by cases h⟩

theorem over : Rows.filesInsteadRow.holds Try.pinned (OpenSpec.ofChange Rows.filesInsteadSpec) :=
  OpenClaim.holds_of_wide 4 Try.f4 rfl rfl rfl rfl rfl rfl rfl ⟨rfl, rfl, rfl, rfl, rfl⟩ rfl rfl rfl rfl rfl (by kernel_rfl) Try.func4 (by kernel_rfl)
    (of_decide_eq_true (by kernel_rfl)) (by unfold Func.isWrapper; first | (rw [if_pos (by decide +kernel)]; kernel_rfl) | (rw [if_neg (by decide +kernel)]; exact ⟨rfl, rfl⟩))
    (fun os started H enc _ => lifted os started H enc)

theorem proved : Rows.FilesInsteadSaid := over
end Go.Proofs.Ytdeggklfjdgfjaa.filesInstead
