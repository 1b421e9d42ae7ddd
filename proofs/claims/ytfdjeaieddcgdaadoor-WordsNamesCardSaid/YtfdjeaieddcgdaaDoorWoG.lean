/-
  WHAT IS PROVED: contract of words: the pieces of a text, one by one (a range over a function).
-/
import Derived.Test.YtfdjeaieddcgdaaDoorWoF
import Derived.RangeFuncNested
import Derived.RangeFuncBound
import Derived.RangeFuncCalls
import Derived.RangeFuncLeaves
import Derived.Shelf.Abstract
import Derived.Shelf.RegionOpen
import Derived.OwnWalkIn
import Derived.TacticsInMore
import Derived.LoopNIn
import Derived.LoopIn
namespace Go.Proofs.YtfdjeaieddcgdaaDoor
open Go.RowKit Go.Shelf
attribute [local go_sem] Oper.semAt_some
set_option linter.unusedVariables false

/-- what the rounds keep: all that was there when the call began, and the box of the text -/
structure KeepsW (B Bn : Nat) (W W' : World) : Prop where
  below : Below B W W'
  size : W.heap.size ≤ W'.heap.size
  box : W'.heap[Bn]? = W.heap[Bn]?
theorem keepsW_t {B Bn : Nat} {X Y Z : World} (h : KeepsW B Bn X Y) (k : KeepsW B Bn Y Z) : KeepsW B Bn X Z := ⟨h.below.trans k.below, Nat.le_trans h.size k.size, k.box.trans h.box⟩
theorem keepsW_b {B Bn : Nat} {w : World} (hB : B ≤ w.heap.size) (hBn : Bn < w.heap.size) (W : World) (l : Nat) (o o' : Obj) (hl : w.heap.size ≤ l) (h : W.heap[l]? = some o) (hc : o.isCells = false) (hw : o.isWalk = false) : KeepsW B Bn W (W.putObj l o') :=
  ⟨belowK_b hB W l o o' hl h hc hw, by simp, World.putObj_heap_other (by omega)⟩

theorem pieces_n (s : ByteArray) (w : World) : Calls Tryd.prog 18 #[.string s] w fun e w' => e = .returned (.func (.func 26) #[] #[.pointer (some ⟨w.heap.size, 0, none⟩)]) ∧ w.alloc (.cells #[.string s] 9) = w' := by
  go_enter Tryd.func18, Tryd.ntmps18
  go_wp2
  go_ret
  exact ⟨rfl, rfl⟩

/-- what the loop's body is handed -/
def encW (s : ByteArray) (x : Nat) : Array Value := #[.int .i64 (x : Int), .string (s.extract x (x + extentB (s.data.toList.drop x)))]

/-- where the reading of pieces is -/
def PcRel (w : World) (n₀ Bn : Nat) (s : ByteArray) (J : List Nat → World → Prop) (a : Value) (wr : World) : Prop :=
  ∃ (at' k : Nat) (pre : List Nat), a = .int .i64 at' ∧ Hid (J pre wr) ∧ Hid (pre ++ piecesF s.data.toList k at' = piecesB s.data.toList) ∧ at' ≤ s.size ∧ s.size - at' < k ∧ Hid (Below n₀ w wr) ∧ Hid (wr.heap[Bn]? = some (.cells #[.string s] 9 (0, 0))) ∧ n₀ ≤ wr.heap.size

set_option maxRecDepth 100000 in
set_option maxHeartbeats 4000000 in
theorem pieces_stop (m : Nat) (hm : 3 ≤ m) (n₀ Bn : Nat) (s : ByteArray) (w : World) (hn : s.size ≤ 1073741000) (hn₀ : n₀ ≤ w.heap.size) (hbn : w.heap[Bn]? = some (.cells #[.string s] 9 (0, 0))) (hw : Wo w) (hlow : ∀ wk, Below n₀ w wk → Wo wk) :
    SeqStopsK Fence.wide m Tryd.prog 26 #[.pointer (some ⟨Bn, 0, none⟩)] (encW s) (KeepsW n₀ Bn) (fun xs => xs = piecesB s.data.toList) (fun pre => ∃ q, pre ++ q = piecesB s.data.toList) (piecesB s.data.toList).length w := by
  intro ll J Jx W hW hJ hJx hY h0
  have hbW := (hW.block Bn (Array.getElem?_eq_some_iff.1 hbn).1).trans hbn
  have hbC : W.cell? ⟨Bn, 0, none⟩ = some (.string s) := blk_cell hbW 0
  refine callsIn_of_wp Tryd.func26 rfl trivial ?_ rfl
  simp only [Tryd.ntmps26, List.size_toArray, List.length_cons, List.length_nil, Nat.reduceAdd, Nat.reduceSub, Array.replicate_succ, Array.replicate_zero, List.push_toArray, List.append_toArray, List.nil_append, List.cons_append]
  have HBW := Lib.hid hbW
  have HW := Lib.hid (hW.mono hn₀)
  have HLOW := Lib.hid hlow
  have hsW := hW.size
  clear hbn hW hbW hlow
  gi_wp2_with fail
  refine ⟨trivial, fun _ => by omega, callsIn_wide.2 ((run_blank s W (by omega)).mono ?_)⟩
  rintro e w1 ⟨rfl, rfl⟩
  gi_wp2_with fail
  have hr := runB_le blank s.data.toList
  rw [str_len] at hr
  gi_loopw [3] (fun a wr => PcRel w n₀ Bn s J a wr) (fun a _ => s.size + 1 - (intOf a).toNat)
  case atStart =>
    refine ⟨runB blank s.data.toList, s.data.toList.length + 1, [], rfl, Lib.hid h0, Lib.hid rfl, hr, by rw [str_len]; omega, Lib.hid HW.out, Lib.hid HBW.out, by omega⟩
  case round =>
    obtain ⟨at', k, pre, rfl, hJs, hpl, hat, hk, hB, hBn, hsz⟩ := hrel
    obtain ⟨k, rfl⟩ : ∃ j, k = j + 1 := ⟨k - 1, by omega⟩
    have hbC := blk_cell hBn.out 0
    simp only [List.getElem?_toArray, List.getElem?_cons_zero] at hbC
    by_cases hlt : at' < s.size
    · have hxs : (s.extract at' s.size).size = s.size - at' := by rw [Lib.size_eq, ext_drop, List.length_drop, str_len]
      have hE := extent_any (s.extract at' s.size) wr (HLOW.out wr hB.out) (by omega) (by omega)
      rw [ext_drop] at hE
      have hzl := extentB_le (s.data.toList.drop at')
      rw [List.length_drop, str_len] at hzl
      obtain ⟨z, hz⟩ : ∃ z, extentB (s.data.toList.drop at') = z := ⟨_, rfl⟩
      rw [hz] at hE hzl
      have HZ := Lib.hid hz
      clear hz
      by_cases hz0 : z = 0
      · have hpc : piecesF s.data.toList (k + 1) at' = [at'] := by
          rw [piecesF, if_pos (by rw [str_len]; exact hlt), HZ.out, if_pos hz0]
        have hlen : pre.length < (piecesB s.data.toList).length := by rw [← hpl.out, hpc, List.length_append, List.length_singleton]; omega
        have HPL : Hid (pre ++ [at'] = piecesB s.data.toList) := by show _ = _; rw [← hpl.out, hpc]
        obtain ⟨fn, tmps, assign, body, hy, hR⟩ := hY pre at' wr hJs.out hlen
        dsimp only [encW] at hy hR
        rw [HZ.out] at hy
        have hzb : ((z : Int) == 0) = true := by rw [hz0]; rfl
        clear hlen hpc hz0
        gi_wp2_with fail
        refine ⟨trivial, fun _ => by omega, callsIn_wide.2 (hE.mono ?_)⟩
        rintro e w1 ⟨rfl, rfl⟩
        gi_wp2_with fail
        refine ⟨fun _ => by omega, hR.mono ?_⟩
        rintro e W3 (⟨rfl, hJ3, hk3⟩ | ⟨rfl, hJx3⟩)
        · gi_wp2_with fail
          refine bodyPost_ret (results_none rfl _ _ _) rfl ?_
          exact ⟨⟨_, rfl⟩, .inl ⟨_, HPL.out, hJ3⟩⟩
        · gi_wp2_with fail
          refine bodyPost_ret (results_none rfl _ _ _) rfl ?_
          exact ⟨⟨_, rfl⟩, .inr ⟨_, ⟨[], by rw [List.append_nil]; exact HPL.out⟩, hJx3⟩⟩
      · have hpc : piecesF s.data.toList (k + 1) at' = at' :: piecesF s.data.toList k (at' + z + runB blank (s.data.toList.drop (at' + z))) := by
          rw [piecesF, if_pos (by rw [str_len]; exact hlt), HZ.out, if_neg hz0]
        have hlen : pre.length < (piecesB s.data.toList).length := by rw [← hpl.out, hpc, List.length_append, List.length_cons]; omega
        have HPL : Hid (pre ++ [at'] ++ piecesF s.data.toList k (at' + z + runB blank (s.data.toList.drop (at' + z))) = piecesB s.data.toList) := by show _ = _; rw [← hpl.out, hpc, List.append_assoc]; rfl
        obtain ⟨fn, tmps, assign, body, hy, hR⟩ := hY pre at' wr hJs.out hlen
        dsimp only [encW] at hy hR
        rw [HZ.out] at hy
        have hzb : ((z : Int) == 0) = false := by rw [beq_eq_false_iff_ne]; omega
        have hrl := runB_le blank (s.data.toList.drop (at' + z))
        rw [List.length_drop, str_len] at hrl
        have hxr : (s.extract (at' + z) s.size).size = s.size - (at' + z) := by rw [Lib.size_eq, ext_drop, List.length_drop, str_len]
        have hRun := fun w => run_blank (s.extract (at' + z) s.size) w (by omega)
        rw [ext_drop] at hRun
        clear hlen hpc
        gi_wp2_with fail
        refine ⟨trivial, fun _ => by omega, callsIn_wide.2 (hE.mono ?_)⟩
        rintro e w1 ⟨rfl, rfl⟩
        gi_wp2_with fail
        refine ⟨fun _ => by omega, hR.mono ?_⟩
        rintro e W3 (⟨rfl, hJ3, hk3⟩ | ⟨rfl, hJx3⟩)
        · have HJ3 := Lib.hid hJ3
          have HB3 := Lib.hid (hB.out.trans hk3.below)
          have hbn3 := hk3.box.trans hBn.out
          have HBN3 := Lib.hid hbn3
          have hbC3 := blk_cell hbn3 0
          simp only [List.getElem?_toArray, List.getElem?_cons_zero] at hbC3
          have hs3 := Nat.le_trans hsz hk3.size
          clear hJ3 hk3 hbn3
          gi_wp2_with fail
          refine ⟨trivial, fun _ => by omega, callsIn_wide.2 ((hRun _).mono ?_)⟩
          rintro e w1 ⟨rfl, rfl⟩
          gi_wp2_with fail
          go_roundw
          case rel => exact ⟨at' + z + runB blank (s.data.toList.drop (at' + z)), k, _, by go_num, HJ3, HPL, by omega, by omega, HB3, HBN3, hs3⟩
          case measure => simp [intOf]; omega
        · gi_wp2_with fail
          refine bodyPost_ret (results_none rfl _ _ _) rfl ?_
          exact ⟨⟨_, rfl⟩, .inr ⟨_, ⟨_, HPL.out⟩, hJx3⟩⟩
    · have hpc : piecesF s.data.toList (k + 1) at' = [] := by rw [piecesF, if_neg (by rw [str_len]; exact hlt)]
      have HPC := Lib.hid hpc
      clear hpc
      gi_wp2_with fail
      go_end0
      have e := hpl.out
      rw [HPC.out, List.append_nil] at e
      exact ⟨⟨_, rfl⟩, .inl ⟨_, e, hJs.out⟩⟩
end Go.Proofs.YtfdjeaieddcgdaaDoor
