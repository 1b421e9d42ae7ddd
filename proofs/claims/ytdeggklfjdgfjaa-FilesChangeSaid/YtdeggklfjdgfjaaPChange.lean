/-
  WHAT IS PROVED: FilesChange: whatever the input, the Go function returns true, and each argument reads behind the call as it read before; no condition.
-/
import Derived.Test.YtdeggklfjdgfjaaLChange
import Derived.Test.YtdeggklfjdgfjaaOpen2
import Derived.ProofKit
import Derived.OpenShut
import Derived.ShutString
import Derived.ChangeOld
import Derived.SliceStrings
namespace Go.Proofs.Ytdeggklfjdgfjaa.filesChange
open Go.ChangeShapes Go.WideShapes Go.ChangeAt Go.RowKit
open Go.ChangeMaps (open_string shut_string)
set_option linter.unusedVariables false

theorem own : ownKnob Try.prog.godebug = none := by kernel_rfl
theorem laidOut : laidOutB Try.prog = true := by kernel_rfl

set_option maxRecDepth 100000 in
theorem lifted (os : Os) (started : os.Started) (H : Type) (enc : TypeId × Value → H) :
    ReturnsInHanded {} Try.checked os 6 .any (Rows.filesChangeSpec.pre6 enc Try.prog Try.f6 Rows.filesChangeRow.domain false) (Rows.filesChangeSpec.post enc Try.prog Try.f6 false true false false) := by
  refine returnsInHanded_of_change_sized (C := Try.checked) own started (by kernel_rfl) Try.func6
    (ChangeSpec.witness6 (enc := enc) (C := Try.checked) false ⟨#[], #[.agg #[.string ByteArray.empty, .string ByteArray.empty, .string ByteArray.empty, .string ByteArray.empty], .bool false, .int .u8 0], []⟩ 8 (by kernel_rfl) (by kernel_rfl) (by kernel_rfl) (by kernel_rfl)) ?_
  intro W base args ds gs before hval0 hW hcnd hsz0 _
  have hval : ∀ (j : Nat) t v, Try.f6.params[j]? = some t → args[j]? = some v → Value.okWide Try.prog W .any base t v := hval0
  have hW' := hW
  obtain ⟨p, q, hA0, hV, rfl, hfz, hnd⟩ := hW
  have hA : DataW.TrodAll enc Try.prog W 0 (fun _ => true) true Try.f6.params.toList args.toList ds p := hA0
  have hsz : (DataW.weightsEach Try.prog (Try.f6.params.toList ++ Rows.filesChangeSpec.plain.varTypes Try.prog) (ds ++ gs)).all (· ≤ reachBytes) = true := hsz0
  rw [Try.params6] at hA hval hsz
  obtain ⟨v0, vs0, d0, ds0, p0, q0, hargs, rfl, rfl, h0, r0⟩ := trodAll_cons hA
  obtain ⟨v1, vs1, d1, ds1, p1, q1, rfl, rfl, rfl, h1, r1⟩ := trodAll_cons r0
  obtain ⟨v2, vs2, d2, ds2, p2, q2, rfl, rfl, rfl, h2, r2⟩ := trodAll_cons r1
  obtain ⟨rfl, rfl, rfl⟩ := trodAll_nil r2
  obtain rfl : args = #[v0, v1, v2] := by cases args; simp_all
  obtain ⟨rfl, rfl⟩ := trodVars_none hV
  have k0 := h0
  have lt0 : ∀ x ∈ p0, x.block < W.heap.size := by obtain ⟨m, hm⟩ := k0; exact DataW.trod_lt m _ _ _ hm
  have z0 : Within Try.prog reachBytes 55 d0 := within_arg hsz (j := 0) rfl rfl
  obtain ⟨l0, e0, rfl, rfl, n0, F0⟩ := open_nest (m := 2) Try.underlying55 Try.underlying53 (by kernel_rfl) (by kernel_rfl) (by kernel_rfl) (hval 0 55 v0 rfl rfl) h0
  obtain ⟨x00, ys00, y00, s00, m00, c00, gg00, g00, t00⟩ := F0 0 0 (by omega) (by omega)
  obtain ⟨a00, u00, b00, _⟩ := DataW.trod_string Try.underlying9 t00
  simp only [List.cons.injEq, and_true] at u00
  simp only [Prod.mk.injEq] at b00
  obtain ⟨b00, _⟩ := b00
  subst u00 b00
  have w00 := within_string (within_elem (within_elem z0 Try.underlying55 (List.mem_of_getElem? gg00)) Try.underlying53 (List.mem_of_getElem? g00))
  obtain ⟨x01, ys01, y01, s01, m01, c01, gg01, g01, t01⟩ := F0 0 1 (by omega) (by omega)
  obtain ⟨a01, u01, b01, _⟩ := DataW.trod_string Try.underlying9 t01
  simp only [List.cons.injEq, and_true] at u01
  simp only [Prod.mk.injEq] at b01
  obtain ⟨b01, _⟩ := b01
  subst u01 b01
  have w01 := within_string (within_elem (within_elem z0 Try.underlying55 (List.mem_of_getElem? gg01)) Try.underlying53 (List.mem_of_getElem? g01))
  obtain ⟨x10, ys10, y10, s10, m10, c10, gg10, g10, t10⟩ := F0 1 0 (by omega) (by omega)
  obtain ⟨a10, u10, b10, _⟩ := DataW.trod_string Try.underlying9 t10
  simp only [List.cons.injEq, and_true] at u10
  simp only [Prod.mk.injEq] at b10
  obtain ⟨b10, _⟩ := b10
  subst u10 b10
  have w10 := within_string (within_elem (within_elem z0 Try.underlying55 (List.mem_of_getElem? gg10)) Try.underlying53 (List.mem_of_getElem? g10))
  obtain ⟨x11, ys11, y11, s11, m11, c11, gg11, g11, t11⟩ := F0 1 1 (by omega) (by omega)
  obtain ⟨a11, u11, b11, _⟩ := DataW.trod_string Try.underlying9 t11
  simp only [List.cons.injEq, and_true] at u11
  simp only [Prod.mk.injEq] at b11
  obtain ⟨b11, _⟩ := b11
  subst u11 b11
  have w11 := within_string (within_elem (within_elem z0 Try.underlying55 (List.mem_of_getElem? gg11)) Try.underlying53 (List.mem_of_getElem? g11))
  obtain rfl := four_of n0 c00 c01 c10 c11
  have k1 := h1
  have lt1 : ∀ x ∈ p1, x.block < W.heap.size := by obtain ⟨m, hm⟩ := k1; exact DataW.trod_lt m _ _ _ hm
  have z1 : Within Try.prog reachBytes 4 d1 := within_arg hsz (j := 1) rfl rfl
  obtain ⟨a1, rfl, hd1, hp1⟩ := open_bool Try.underlying4 (hval 1 4 v1 rfl rfl) h1
  have k2 := h2
  have lt2 : ∀ x ∈ p2, x.block < W.heap.size := by obtain ⟨m, hm⟩ := k2; exact DataW.trod_lt m _ _ _ hm
  have z2 : Within Try.prog reachBytes 5 d2 := within_arg hsz (j := 2) rfl rfl
  obtain ⟨a2, rfl, hd2, hp2, w2⟩ := open_int Try.underlying5 (hval 2 5 v2 rfl rfl) h2
  clear hA0 hval0
  refine (walk_FilesChange a00 a01 a10 a11 w00 w01 w10 w11 a1 a2 w2 (w := W)).mono fun e W' ⟨he, bel⟩ => ?_
  subst he
  exact ⟨_, rfl, _, _, _, [], _, [], hW', trodAll_mk1 (shut_bool Try.underlying4 _), (trodAll_cons_mk (Below.trod laidOut (by kernel_rfl) (of_decide_eq_true (by kernel_rfl)) k0 bel lt0) (trodAll_cons_mk (Below.trod laidOut (by kernel_rfl) (of_decide_eq_true (by kernel_rfl)) k1 bel lt1) (trodAll_cons_mk (Below.trod laidOut (by kernel_rfl) (of_decide_eq_true (by kernel_rfl)) k2 bel lt2) trodAll_mk0))), rfl, bel.frame _, fun h => by cases h⟩

theorem over : Rows.filesChangeRow.holds Try.pinned (OpenSpec.ofChange Rows.filesChangeSpec) :=
  OpenClaim.holds_of_wide 6 Try.f6 rfl rfl rfl rfl rfl rfl rfl ⟨rfl, rfl, rfl, rfl, rfl⟩ rfl rfl rfl rfl rfl (by kernel_rfl) Try.func6 (by kernel_rfl)
    (of_decide_eq_true (by kernel_rfl)) (by unfold Func.isWrapper; first | (rw [if_pos (by decide +kernel)]; kernel_rfl) | (rw [if_neg (by decide +kernel)]; exact ⟨rfl, rfl⟩))
    (fun os started H enc _ => lifted os started H enc)

theorem proved : Rows.FilesChangeSaid := over
end Go.Proofs.Ytdeggklfjdgfjaa.filesChange
