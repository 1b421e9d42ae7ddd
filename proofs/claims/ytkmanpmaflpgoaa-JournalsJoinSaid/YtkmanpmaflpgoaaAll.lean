/-
  WHAT IS PROVED: contract of the statements' All: a file's bytes as a string; the calls' contracts at known answers.
-/
import Derived.Test.YtkmanpmaflpgoaaFail
namespace Go.Proofs.Ytkmanpmaflpgoaa
open Go.RowKit Go.Lib

/-- all bytes of the file that a name leads to -/
def DiskM.all (M : DiskM) (nm : ByteArray) : List Nat := if M.miss nm = 0 then (M.file (M.of nm)).bytes else []

theorem all_read (M : DiskM) (nm : ByteArray) : M.readB nm 0 (M.sizeN nm) = M.all nm := by
  rcases miss_cases M nm with ⟨hm, hok, hth⟩ | ⟨hm, hok⟩ | ⟨hm, hok, hth⟩
  · have h1 : M.sizeN nm = (M.file (M.of nm)).bytes.length := by unfold DiskM.sizeN; rw [hm, if_pos rfl]
    have h2 : M.readE nm 0 (M.sizeN nm) = 0 := by unfold DiskM.readE; rw [if_pos ⟨hok, by omega, by omega⟩, hth, if_pos rfl, h1, if_neg (by omega)]
    unfold DiskM.readB DiskM.all
    rw [h2, hm, if_pos rfl, if_pos rfl, h1]; simp
  · have h2 : M.readE nm 0 (M.sizeN nm) = 1 := by unfold DiskM.readE; rw [if_neg (by rw [hok]; simp)]
    unfold DiskM.readB DiskM.all
    rw [h2, hm]; rfl
  · have h2 : M.readE nm 0 (M.sizeN nm) = 7 := by unfold DiskM.readE; rw [if_pos ⟨hok, by omega, by omega⟩, hth]; rfl
    unfold DiskM.readB DiskM.all
    rw [h2, hm]; rfl

theorem of_mem {w : World} {L : LayD} {M : DiskM} (_ : DiskAt w L M) {nm : ByteArray} (hm : M.miss nm = 0) : ∃ e ∈ M.now, e.1 = nm ∧ M.of nm = e.2 := by
  rcases miss_cases M nm with ⟨_, hok, hth⟩ | ⟨hm', _⟩ | ⟨hm', _⟩
  · obtain ⟨x, hx, hxn⟩ := there_get hth
    exact ⟨x, List.mem_of_getElem? hx, hxn, by unfold DiskM.of; simp [List.getD, hx]⟩
  · omega
  · omega

theorem all_byte {w : World} {L : LayD} {M : DiskM} (h : DiskAt w L M) (nm : ByteArray) : (∀ x ∈ M.all nm, x < 256) ∧ (M.all nm).length ≤ 1048576 := by
  unfold DiskM.all
  split
  · rename_i hm
    obtain ⟨e, he, _, h2⟩ := of_mem h hm
    rw [h2]
    obtain ⟨v, _, _, h3, _, h5, _⟩ := h.of (.inl he)
    exact ⟨h5, h3⟩
  · exact ⟨fun x hx => by simp at hx, by simp⟩

theorem sizeN_le {w : World} {L : LayD} {M : DiskM} (h : DiskAt w L M) (nm : ByteArray) : M.sizeN nm ≤ 1048576 := by
  unfold DiskM.sizeN
  split
  · rename_i hm
    obtain ⟨e, he, _, h2⟩ := of_mem h hm
    rw [h2]
    obtain ⟨v, _, _, h3, _⟩ := h.of (.inl he)
    exact h3
  · omega

end Go.Proofs.Ytkmanpmaflpgoaa
