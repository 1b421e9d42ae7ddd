/-
  WHAT IS PROVED: contracts of words: which sign begins a text.
-/
import Derived.Test.YtfdjeaieddcgdaaDoorWoB
namespace Go.Proofs.YtfdjeaieddcgdaaDoor
open Go.RowKit Go.ChangeShapes
set_option linter.unusedVariables false

theorem run_at {A : Array Value} {k : Nat} {v : Value} (w : World) (hk : k < 16) (h : A[k]? = some v) : (Instr.index 72 (.agg A) (.int .i64 (k : Int))).run Tryd.prog w = .ok v w := by
  simp [Instr.index, run_underlying Tryd.underlying72, asIntOf, go_sem, h, hk]

/-- a sign's bytes -/
def sgB (j : Nat) : ByteArray := ⟨(signsB.getD j []).toArray⟩
/-- WHAT WORDS NEEDS OF THE VARIABLES: the signs; a number of the library's; an error of the library's -/
structure Wo (w : World) : Prop where
  sign : ∀ j, j < 16 → w.cell? ⟨0, j, none⟩ = some (.string (sgB j))
  max : ∃ m, w.cell? ⟨2, 0, none⟩ = some (.int .i64 m)
  range : ∃ ev, w.cell? ⟨6, 0, none⟩ = some ev ∧ (ev = .nilIface ∨ ∃ te pe, ev = .iface te pe)
theorem Wo.kept {w w' : World} (h : Wo w) (hb : Below w.heap.size w w') : Wo w' := by
  refine ⟨fun j hj => ?_, ?_, ?_⟩
  · rw [hb.cell (p := ⟨0, j, none⟩) (World.block_lt_of_cell? w _ (h.sign j hj))]; exact h.sign j hj
  · obtain ⟨m, hm⟩ := h.max
    exact ⟨m, (hb.cell (World.block_lt_of_cell? w _ hm)).trans hm⟩
  · obtain ⟨ev, he, hv⟩ := h.range
    exact ⟨ev, (hb.cell (World.block_lt_of_cell? w _ he)).trans he, hv⟩

theorem sg_prefix (k : Nat) (l : List UInt8) : (signsB.getD k []).isPrefixOf l = Lib.hasPrefix l (sgB k).data.toList := by
  unfold Lib.hasPrefix sgB; simp
theorem sg_size (k : Nat) : (signsB.getD k []).length = (sgB k).size := by unfold sgB; simp [ByteArray.size]
theorem find_next {p : List UInt8 → Bool} (k : Nat) (hk : k < 16) : (signsB.drop k).find? p = if p (signsB.getD k []) then some (signsB.getD k []) else (signsB.drop (k + 1)).find? p := by
  have hl : k < signsB.length := hk
  rw [List.drop_eq_getElem_cons hl, List.find?_cons]
  have : signsB.getD k [] = signsB[k] := by simp [List.getD, List.getElem?_eq_getElem hl]
  rw [this]
  cases p signsB[k] <;> rfl

set_option maxHeartbeats 1000000 in
set_option maxRecDepth 100000 in
theorem sign_any (s : ByteArray) (w : World) (hw : Wo w) (hs : s.size ≤ 9223372036854775000) :
    Calls Tryd.prog 43 #[.string s] w fun e w' => e = .returned (.int .i64 (signB s.data.toList : Nat)) ∧ w = w' := by
  obtain ⟨r, hr⟩ : ∃ r, signB s.data.toList = r := ⟨_, rfl⟩
  rw [hr]
  have HR := Lib.hid hr
  clear hr
  have q0 := hw.sign 0 (by omega)
  have q1 := hw.sign 1 (by omega)
  have q2 := hw.sign 2 (by omega)
  have q3 := hw.sign 3 (by omega)
  have q4 := hw.sign 4 (by omega)
  have q5 := hw.sign 5 (by omega)
  have q6 := hw.sign 6 (by omega)
  have q7 := hw.sign 7 (by omega)
  have q8 := hw.sign 8 (by omega)
  have q9 := hw.sign 9 (by omega)
  have q10 := hw.sign 10 (by omega)
  have q11 := hw.sign 11 (by omega)
  have q12 := hw.sign 12 (by omega)
  have q13 := hw.sign 13 (by omega)
  have q14 := hw.sign 14 (by omega)
  have q15 := hw.sign 15 (by omega)
  go_enter Tryd.func43, Tryd.ntmps43
  go_wp2
  obtain ⟨A, hA⟩ : ∃ A, A = #[Value.string (sgB 0), Value.string (sgB 1), Value.string (sgB 2), Value.string (sgB 3), Value.string (sgB 4), Value.string (sgB 5), Value.string (sgB 6), Value.string (sgB 7), Value.string (sgB 8), Value.string (sgB 9), Value.string (sgB 10), Value.string (sgB 11), Value.string (sgB 12), Value.string (sgB 13), Value.string (sgB 14), Value.string (sgB 15)] := ⟨_, rfl⟩
  rw [← hA]
  have hget : ∀ k, k < 16 → A[k]? = some (Value.string (sgB k)) := by
    intro k hk
    subst hA
    have : k = 0 ∨ k = 1 ∨ k = 2 ∨ k = 3 ∨ k = 4 ∨ k = 5 ∨ k = 6 ∨ k = 7 ∨ k = 8 ∨ k = 9 ∨ k = 10 ∨ k = 11 ∨ k = 12 ∨ k = 13 ∨ k = 14 ∨ k = 15 := by omega
    rcases this with rfl | rfl | rfl | rfl | rfl | rfl | rfl | rfl | rfl | rfl | rfl | rfl | rfl | rfl | rfl | rfl <;> rfl
  have hsz : A.size = 16 := by subst hA; rfl
  have HGET := Lib.hid hget
  clear hA hget q0 q1 q2 q3 q4 q5 q6 q7 q8 q9 q10 q11 q12 q13 q14 q15
  go_loop [6] (fun i => ∃ k : Nat, k ≤ 16 ∧ i = .int .i64 k ∧ Hid (signsB.find? (fun x => x.isPrefixOf s.data.toList) = (signsB.drop k).find? (fun x => x.isPrefixOf s.data.toList))) (fun i => 16 - (intOf i).toNat)
  case atStart => exact ⟨0, by omega, rfl, Lib.hid rfl⟩
  case round =>
    obtain ⟨k, hk, rfl, HP⟩ := hrel
    by_cases hlt : k < 16
    · have hg := HGET.out k hlt
      obtain ⟨x, hx⟩ : ∃ x, sgB k = x := ⟨_, rfl⟩
      rw [hx] at hg
      have HX := Lib.hid hx
      clear hx
      have hi := run_at w hlt hg
      obtain ⟨b, hb⟩ : ∃ b, Lib.hasPrefix s.data.toList x.data.toList = b := ⟨_, rfl⟩
      have h1 := prefix_any s x w b hb
      have HB := Lib.hid hb
      clear hb hg
      cases b
      · go_wp2_with (go_at_call 33; refine h1.mono ?_; rintro e w' ⟨rfl, rfl⟩)
        go_round
        case rel =>
          refine ⟨k + 1, by omega, by go_num, Lib.hid ?_⟩
          rw [HP.out, find_next k hlt, sg_prefix, HX.out, HB.out]
          rfl
        case measure => simp [intOf]; omega
      · go_wp2_with (go_at_call 33; refine h1.mono ?_; rintro e w' ⟨rfl, rfl⟩)
        go_ret
        refine ⟨ret_val ?_, rfl⟩
        rw [← HR.out]
        unfold signB
        rw [HP.out, find_next k hlt, sg_prefix, HX.out, HB.out, ← HX.out, ← sg_size]
        rfl
    · go_wp2
      go_ret
      refine ⟨ret_val ?_, rfl⟩
      obtain rfl : k = 16 := by omega
      rw [← HR.out]
      unfold signB
      rw [HP.out]
      rfl
end Go.Proofs.YtfdjeaieddcgdaaDoor
