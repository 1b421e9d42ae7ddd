/-
  WHAT IS PROVED: pieces of slices of bytes, as Go cuts them.
-/
import Derived.Test.YtkmanpmaflpgoaaJBehind
namespace Go.Proofs.Ytkmanpmaflpgoaa
open Go.RowKit Go.Lib

/-- where the end of a slice lies -/
def cutA (ao : Option Addr) (cap lo : Nat) : Option Addr := if cap = lo then ao else ao.map (·.add lo)

theorem cutA_block {ao : Option Addr} {cap lo : Nat} : ∀ a', cutA ao cap lo = some a' → ∃ a, ao = some a ∧ a'.block = a.block := by
  intro a' h
  unfold cutA at h
  split at h
  · exact ⟨a', h, rfl⟩
  · cases ao with
    | none => simp at h
    | some a =>
      simp at h
      subst h
      exact ⟨a, rfl, by unfold Addr.add; split <;> rfl⟩

theorem Row8.cut {w : World} {ao : Option Addr} {n cap : Nat} {l : List Nat} (h : Row8 w ao n cap l) (lo hi : Nat) (h1 : lo ≤ hi) (h2 : hi ≤ n) : Row8 w (cutA ao cap lo) (hi - lo) (cap - lo) ((l.drop lo).take (hi - lo)) := by
  have hl := h.len
  have hr := h.room
  have hm := h.most
  unfold cutA
  by_cases hc : cap = lo
  · rw [if_pos hc]
    have : hi - lo = 0 := by omega
    rw [this, List.take_zero]
    exact Row8.empty (fun _ => by omega) (by omega)
  · rw [if_neg hc]
    cases ao with
    | none =>
      have := h.nil rfl
      omega
    | some a =>
      refine ⟨by rw [List.length_take, List.length_drop]; omega, by omega, by omega, fun h => by simp at h, fun a' ha j hj => ?_, fun x hx => h.byte x (List.mem_of_mem_drop (List.mem_of_mem_take hx))⟩
      simp only [Option.map_some, Option.some.injEq] at ha
      subst ha
      have h0 := h.cell a rfl (lo + j) (by omega)
      have e : (a.add lo).add j = a.add (lo + j) := by unfold Addr.add; by_cases hl : lo = 0 <;> by_cases hj : j = 0 <;> simp_all [Nat.add_assoc]
      rw [e, h0]
      have : lo + j < l.length := by omega
      simp [List.getD, hj]

theorem run_cut_from (W : World) (ao : Option Addr) (n cap lo : Nat) (h : lo ≤ n) : (Instr.slice 22 (.slice ao n cap) (some (.int .i64 lo)) none none).run Try.prog W = .ok (.slice (cutA ao cap lo) (n - lo) (cap - lo)) W := by
  obtain ⟨i0, hi, hz0, hz1, hz2⟩ := info_parts Try.info8
  rw [run_slice_l W 22 ao n cap (by kernel_rfl) .i64 (lo : Int) (by omega) (by omega)]
  have hsz : (sizeOf (Try.prog.elem 22)).run Try.prog W = .ok 1 W := by
    have : Try.prog.elem 22 = 5 := by kernel_rfl
    rw [this]
    simp [sizeOf, typeInfo, hi, hz1]
  rw [hsz]
  simp [Result.andThen, sliced, cutA]
theorem run_cut_both (W : World) (ao : Option Addr) (n cap lo hi : Nat) (h : lo ≤ hi) (h2 : hi ≤ cap) : (Instr.slice 22 (.slice ao n cap) (some (.int .i64 lo)) (some (.int .i64 hi)) none).run Try.prog W = .ok (.slice (cutA ao cap lo) (hi - lo) (cap - lo)) W := by
  obtain ⟨i0, hi0, hz0, hz1, hz2⟩ := info_parts Try.info8
  rw [run_slice_lh W 22 ao n cap (by kernel_rfl) .i64 .i64 (lo : Int) (hi : Int) (by omega) (by omega) (by omega)]
  have hsz : (sizeOf (Try.prog.elem 22)).run Try.prog W = .ok 1 W := by
    have : Try.prog.elem 22 = 5 := by kernel_rfl
    rw [this]
    simp [sizeOf, typeInfo, hi0, hz1]
  rw [hsz]
  simp [Result.andThen, sliced, cutA]
end Go.Proofs.Ytkmanpmaflpgoaa
