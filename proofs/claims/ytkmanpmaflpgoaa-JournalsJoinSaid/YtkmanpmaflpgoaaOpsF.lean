/-
  WHAT IS PROVED: contracts of a disk's calls: List; all calls on a disk that is not there.
-/
import Derived.Test.YtkmanpmaflpgoaaOpsE
namespace Go.Proofs.Ytkmanpmaflpgoaa
open Go.RowKit Go.Lib

theorem Try.info9 : (Try.prog.info? 9).map (fun i => (i.zero, i.size, i.bytes)) = some (some (.string ⟨#[]⟩), 1, 16) := by kernel_rfl
theorem u38 : Try.prog.underlying 90 = some (.slice 9) := by kernel_rfl

def cellsS (l : List ByteArray) : List Value := l.map Value.string
theorem cellsS_append (l m : List ByteArray) : cellsS l ++ cellsS m = cellsS (l ++ m) := by simp [cellsS]

theorem rowS_of_owns {w : World} {base : Nat} {v : Value} {l : List ByteArray} (h : w.ownsRow base 9 1 v l.length (cellsS l)) (hs : ∀ s ∈ l, s.size ≤ 140737488351232) :
    ∃ ao cap, v = .slice ao l.length cap ∧ RowS w ao l.length cap l ∧ (∀ a, ao = some a → base ≤ a.block) := by
  rcases h.2 with ⟨rfl, hn⟩ | ⟨g, cap, cur, rfl, hg, hh, hc, hm, hcs, ht⟩
  · obtain rfl : l = [] := List.eq_nil_of_length_eq_zero hn
    exact ⟨none, 0, rfl, rowS_nil w, fun a ha => by simp at ha⟩
  · refine ⟨some ⟨g, 0, none⟩, cap, rfl, ⟨rfl, hc, hm, fun h => by simp at h, fun a ha j hj => ?_, hs⟩, fun a ha => by simp at ha; subst ha; exact hg⟩
    obtain rfl := Option.some.inj ha
    refine h.cells (g := g) rfl j _ ?_
    simp [cellsS, List.getD, hj]

/-- names in new memory -/
def Listed (ns : List ByteArray) (w : World) (e : Ending) (w' : World) : Prop :=
  ∃ ao cap, e = .returned (.slice ao ns.length cap) ∧ RowS w' ao ns.length cap ns ∧ (∀ a, ao = some a → w.heap.size ≤ a.block) ∧ Below w.heap.size w w'

def LiRel (M : DiskM) (w : World) (k : Nat) (v : Value) (wr : World) : Prop :=
  wr.ownsRow w.heap.size 9 1 v k (cellsS ((M.now.take k).map (·.1))) ∧ Below w.heap.size w wr

end Go.Proofs.Ytkmanpmaflpgoaa
