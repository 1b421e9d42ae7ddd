/-
  WHAT IS PROVED: plain facts on a disk with one journal's file, whichever names are sure; a part of a slice of records.
-/
import Derived.Test.YtkmanpmaflpgoaaJFootB
import Derived.Test.YtkmanpmaflpgoaaJLRefuse
namespace Go.Proofs.Ytkmanpmaflpgoaa
open Go.RowKit Go.Lib

/-- a disk with one journal's file, and these names sure -/
def jN (n : Nat) (b : List Nat) (s : Nat) (q : Dir) : DiskM := ⟨n, [(nJ, 0)], q, [⟨b, s⟩]⟩
theorem jN_jM (n : Nat) (b : List Nat) (s : Nat) : jM n b s = jN n b s [] := rfl
theorem jN_all (n : Nat) (b : List Nat) (s : Nat) (q : Dir) : (jN n b s q).all nJ = b := jM_all n b s
theorem jN_miss (n : Nat) (b : List Nat) (s : Nat) (q : Dir) : (jN n b s q).miss nJ = 0 := jM_miss n b s
theorem jN_sync (n : Nat) (b : List Nat) (s : Nat) (q : Dir) : (jN n b s q).syncM nJ = jN n b b.length q := by kernel_rfl
theorem jN_names (n : Nat) (b : List Nat) (s : Nat) (q : Dir) : (jN n b s q).namesM = jN n b s [(nJ, 0)] := rfl
theorem jN_left (n : Nat) (b : List Nat) (s : Nat) (q : Dir) : (jN n b s q).left = n - b.length := jM_left n b s
theorem jN_add (n : Nat) (l : List (List Nat)) (s : Nat) (q : Dir) (r : List Nat) (hr : r.length ≤ 65536) (h : (allB 0 (l ++ [r])).length ≤ n) (h2 : (allB 0 (l ++ [r])).length ≤ 1048576) :
    (jN n (allB 0 l) s q).addE nJ (allB 0 l).length r = 0 ∧ (jN n (allB 0 l) s q).addM nJ (allB 0 l).length r = jN n (allB 0 (l ++ [r])) s q ∧ (jN n (allB 0 l) s q).addS nJ (allB 0 l).length r = (allB 0 (l ++ [r])).length := by
  rw [allB_snoc, Nat.zero_add, List.length_append] at h h2
  obtain ⟨h3, h4, h5⟩ := add_eq (jN n (allB 0 l) s q) nJ r 0 ⟨allB 0 l, s⟩ (jM_miss n (allB 0 l) s) (by kernel_rfl) rfl hr (by rw [jN_left]; simp only; omega) h2
  refine ⟨h3, ?_, ?_⟩
  · rw [allB_snoc, Nat.zero_add]; exact h4
  · rw [allB_snoc, Nat.zero_add, List.length_append]; exact h5
theorem jN_large (n : Nat) (b : List Nat) (s : Nat) (q : Dir) (stop : Nat) (r : List Nat) (hr : 65536 < r.length) :
    (jN n b s q).addE nJ stop r = 3 ∧ (jN n b s q).addM nJ stop r = jN n b s q ∧ (jN n b s q).addS nJ stop r = stop := by
  have hE : (jN n b s q).addE nJ stop r = 3 := by unfold DiskM.addE; rw [if_pos hr]
  refine ⟨hE, ?_, ?_⟩
  · unfold DiskM.addM; rw [hE]; rfl
  · unfold DiskM.addS; rw [hE]; rfl

theorem RowR.upto {w : World} {ao : Option Addr} {n cap : Nat} {rs : List (List Nat)} (h : RowR w ao n cap rs) (k : Nat) (hk : k ≤ n) : RowR w ao k cap (rs.take k) := by
  have hlen := h.len
  have hroom := h.room
  refine ⟨by rw [List.length_take]; omega, by omega, h.most, h.nil, fun a ha j r hr => h.cell a ha j r ?_⟩
  rw [List.getElem?_take] at hr
  split at hr
  · exact hr
  · simp at hr
theorem take_next {rs : List (List Nat)} {k : Nat} {x : List Nat} (h : rs[k]? = some x) : rs.take (k + 1) = rs.take k ++ [x] := by rw [List.take_add_one, h]; rfl
/-- all that is written fits well -/
theorem few_room {rs : List (List Nat)} (hb : ¬ bigR rs) (k : Nat) : (allB 0 (rs.take k)).length ≤ 50000 := by
  have h6 := allB_len (rs.take k) 0
  have h1 := bytesOf_le rs k
  have h2 := List.length_take_le k rs
  have h3 : (rs.take k).length ≤ rs.length := by rw [List.length_take]; omega
  unfold bigR at hb
  omega
end Go.Proofs.Ytkmanpmaflpgoaa
