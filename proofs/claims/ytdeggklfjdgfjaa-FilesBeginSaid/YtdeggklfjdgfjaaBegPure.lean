/-
  WHAT IS PROVED: what is left of a disk, and what is left of that, as data.
-/
import Derived.Test.YtdeggklfjdgfjaaLSum
import Derived.Test.YtdeggklfjdgfjaaSame
namespace Go.Proofs.Ytdeggklfjdgfjaa
open Go.RowKit Go.Lib

theorem all_at (M : DiskM) (hf : M.Fine) (k : Nat) (e : ByteArray × Nat) (h : M.now[k]? = some e) : M.all e.1 = (M.file e.2).bytes := by
  obtain ⟨h1, _⟩ := name_at M hf k e h
  have h3 := (place_at hf.rise.1 h).1
  unfold DiskM.all DiskM.of
  rw [if_pos h1, h3]
  simp [List.getD, h]
theorem numbered_at (l : Dir) (k : Nat) (e : ByteArray × Nat) (h : l[k]? = some e) : (numbered l)[k]? = some (e.1, k) := by
  have hk := (List.getElem?_eq_some_iff.1 h).1
  unfold numbered
  simp [hk, List.getD]
  have := (List.getElem?_eq_some_iff.1 h).2
  rw [← this]
/-- what a failure leaves of the k-th file of the list -/
theorem fail_at (M : DiskM) (keep : Nat) (k : Nat) (e : ByteArray × Nat) (h : M.now[k]? = some e) :
    (M.failM keep true).now[k]? = some (e.1, k) ∧ (M.failM keep true).file k = (M.file e.2).left keep := by
  refine ⟨numbered_at _ k e h, ?_⟩
  show (M.now.map fun e => (M.file e.2).left keep).getD k _ = _
  simp [List.getD, h]
theorem fail_again (M : DiskM) (keep more : Nat) (b : Bool) (k : Nat) (e : ByteArray × Nat) (h : M.now[k]? = some e) :
    ((M.failM keep true).failM more b).now[k]? = some (e.1, k) ∧ ((M.failM keep true).failM more b).file k = ((M.file e.2).left keep).left more := by
  have h1 := (fail_at M keep k e h).1
  have h2 := (fail_at M keep k e h).2
  have hn : (M.failM keep true).sure = (M.failM keep true).now := rfl
  have hl : (if b then (M.failM keep true).now else (M.failM keep true).sure) = (M.failM keep true).now := by rw [hn]; cases b <;> rfl
  unfold DiskM.failM at hl ⊢
  simp only [ite_true] at hl ⊢
  constructor
  · rw [hl]
    have := numbered_at _ k _ h1
    exact this
  · rw [hl]
    show (List.map _ _).getD k _ = _
    have h1' : (numbered M.now)[k]? = some (e.1, k) := h1
    rw [List.getD, List.getElem?_map, h1']
    show ((DiskM.file (M.failM keep true) k).left more) = _
    rw [h2]
theorem fail_names (M : DiskM) (keep : Nat) : (M.failM keep true).now.map (·.1) = M.now.map (·.1) := numbered_names _
theorem fail_names2 (M : DiskM) (keep more : Nat) (b : Bool) : ((M.failM keep true).failM more b).now.map (·.1) = M.now.map (·.1) := by
  have : ((M.failM keep true).failM more b).now = numbered (numbered M.now) := by cases b <;> rfl
  rw [this, numbered_names, numbered_names]
theorem left_left (f : FileM) (keep more : Nat) : ((f.left keep).left more).bytes = (f.left keep).bytes := by
  show (f.bytes.take (f.sure + keep)).take (min f.bytes.length (f.sure + keep) + more) = f.bytes.take (f.sure + keep)
  rw [List.take_of_length_le]
  rw [List.length_take]; omega
theorem strB_size' (l : List Nat) : (strB l).size = l.length := by unfold strB; simp [ByteArray.size]
theorem strB_take (l : List Nat) (m : Nat) : (strB l).extract 0 (strB (l.take m)).size = strB (l.take m) := by
  rw [strB_size', List.length_take]
  unfold strB
  apply ByteArray.ext
  simp
end Go.Proofs.Ytdeggklfjdgfjaa
