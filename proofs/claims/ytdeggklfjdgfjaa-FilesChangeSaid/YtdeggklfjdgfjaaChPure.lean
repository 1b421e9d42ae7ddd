/-
  WHAT IS PROVED: two files that change their names, as data.
-/
import Derived.Test.YtdeggklfjdgfjaaLAnew
import Derived.Test.YtdeggklfjdgfjaaHasK
namespace Go.Proofs.Ytdeggklfjdgfjaa
open Go.RowKit Go.Lib

abbrev nA : ByteArray := ⟨#[97]⟩
abbrev nB : ByteArray := ⟨#[98]⟩
abbrev nC : ByteArray := ⟨#[99]⟩
def ch1 (f : FileM) : DiskM := ⟨20000, [(nA, 0)], [], [f]⟩
def ch2 (f g : FileM) : DiskM := ⟨20000, [(nA, 0), (nB, 1)], [], [f, g]⟩
def chN (f g : FileM) : DiskM := ⟨20000, [(nA, 0), (nB, 1)], [(nA, 0), (nB, 1)], [f, g]⟩
def chX (f g : FileM) : DiskM := ⟨20000, [(nB, 1), (nC, 0)], [(nA, 0), (nB, 1)], [f, g]⟩
def chY (f g : FileM) : DiskM := ⟨20000, [(nA, 1), (nC, 0)], [(nA, 0), (nB, 1)], [f, g]⟩
def chZ (f g : FileM) : DiskM := ⟨20000, [(nA, 1), (nB, 0)], [(nA, 0), (nB, 1)], [f, g]⟩
def chS (f g : FileM) : DiskM := ⟨20000, [(nA, 1), (nB, 0)], [(nA, 1), (nB, 0)], [f, g]⟩

theorem ch_c1 : (newM 20000).createE nA = 0 ∧ (newM 20000).createM nA = ch1 ⟨[], 0⟩ := ⟨by kernel_rfl, by kernel_rfl⟩
theorem ch_c2 (f : FileM) : (ch1 f).createE nB = 0 ∧ (ch1 f).createM nB = ch2 f ⟨[], 0⟩ := ⟨by kernel_rfl, by kernel_rfl⟩
theorem ch_s1 (l : List Nat) (s : Nat) : (ch1 ⟨l, s⟩).miss nA = 0 ∧ (ch1 ⟨l, s⟩).syncM nA = ch1 ⟨l, l.length⟩ := ⟨by kernel_rfl, by kernel_rfl⟩
theorem ch_s2 (f : FileM) (l : List Nat) (s : Nat) : (ch2 f ⟨l, s⟩).miss nB = 0 ∧ (ch2 f ⟨l, s⟩).syncM nB = ch2 f ⟨l, l.length⟩ := ⟨by kernel_rfl, by kernel_rfl⟩
theorem ch_a1 (l m : List Nat) (s n : Nat) (hn : n = m.length) (h : l.length + m.length ≤ 20000) : (ch1 ⟨l, s⟩).appendE nA n = 0 ∧ (ch1 ⟨l, s⟩).appendM nA m = ch1 ⟨l ++ m, s⟩ := by
  subst hn
  exact append_eq (ch1 ⟨l, s⟩) nA m 0 ⟨l, s⟩ (by kernel_rfl) (by kernel_rfl) rfl (by show m.length ≤ 20000 - (l.length + 0); omega) (by show l.length + m.length ≤ _; omega)
theorem ch_a2 (f : FileM) (l m : List Nat) (s n : Nat) (hn : n = m.length) (h : f.bytes.length + l.length + m.length ≤ 20000) : (ch2 f ⟨l, s⟩).appendE nB n = 0 ∧ (ch2 f ⟨l, s⟩).appendM nB m = ch2 f ⟨l ++ m, s⟩ := by
  subst hn
  exact append_eq (ch2 f ⟨l, s⟩) nB m 1 ⟨l, s⟩ (by kernel_rfl) (by kernel_rfl) rfl (by show m.length ≤ 20000 - (f.bytes.length + (l.length + 0)); omega) (by show l.length + m.length ≤ _; omega)
theorem ch_n (f g : FileM) : (ch2 f g).namesM = chN f g := rfl
theorem ch_x (f g : FileM) : (chN f g).renameE nA nC = 0 ∧ (chN f g).renameM nA nC = chX f g := ⟨by kernel_rfl, by kernel_rfl⟩
theorem ch_y (f g : FileM) : (chX f g).renameE nB nA = 0 ∧ (chX f g).renameM nB nA = chY f g := ⟨by kernel_rfl, by kernel_rfl⟩
theorem ch_z (f g : FileM) : (chY f g).renameE nC nB = 0 ∧ (chY f g).renameM nC nB = chZ f g := ⟨by kernel_rfl, by kernel_rfl⟩
theorem ch_s (f g : FileM) : (chZ f g).namesM = chS f g := rfl

/-- the disk, once names have changed, and maybe are sure -/
def chE (q : Bool) (f g : FileM) : DiskM := if q then chS f g else chZ f g

/-- what a disk has under its two names, and that there are no more -/
def Holds (M : DiskM) (x y : List Nat) : Prop := M.now.map (·.1) = [nA, nB] ∧ M.all nA = x ∧ M.all nB = y
theorem ch_fail0 (f g : FileM) (k : Nat) : Holds ((chZ f g).failM k false) (f.left k).bytes (g.left k).bytes := ⟨by kernel_rfl, by kernel_rfl, by kernel_rfl⟩
theorem ch_fail1 (f g : FileM) (k : Nat) : Holds ((chZ f g).failM k true) (g.left k).bytes (f.left k).bytes := ⟨by kernel_rfl, by kernel_rfl, by kernel_rfl⟩
theorem ch_fail2 (f g : FileM) (k : Nat) (b : Bool) : Holds ((chS f g).failM k b) (g.left k).bytes (f.left k).bytes := by cases b <;> exact ⟨by kernel_rfl, by kernel_rfl, by kernel_rfl⟩
theorem ch_end (f g : FileM) (k : Bool) : Holds (chE k f g) g.bytes f.bytes := by cases k <;> exact ⟨by kernel_rfl, by kernel_rfl, by kernel_rfl⟩

theorem ch_fail (f g : FileM) (k : Nat) (q n : Bool) : Holds ((chE q f g).failM k n) (if q || n then (g.left k).bytes else (f.left k).bytes) (if q || n then (f.left k).bytes else (g.left k).bytes) := by
  cases q
  · cases n
    · exact ch_fail0 f g k
    · exact ch_fail1 f g k
  · exact ch_fail2 f g k n

/-- a file of two parts, the first of them sure -/
def two (a b : ByteArray) : FileM := ⟨strN a ++ strN b, (strN a).length⟩
theorem strN_append' (a b : ByteArray) : strN (a ++ b) = strN a ++ strN b := by simp [strN]
theorem strB_append' (l m : List Nat) : strB l ++ strB m = strB (l ++ m) := by
  unfold strB
  apply ByteArray.ext
  simp
theorem two_bytes (a b : ByteArray) : strB (two a b).bytes = a ++ b := by
  show strB (strN a ++ strN b) = _
  rw [← strN_append', strB_of]
theorem two_left (a b : ByteArray) (k m : Nat) (hm : m = min k b.size) : strB ((two a b).left k).bytes = a ++ b.extract 0 m := by
  have h : ((two a b).left k).bytes = strN a ++ (strN b).take k := by
    show (strN a ++ strN b).take ((strN a).length + k) = _
    rw [List.take_length_add_append]
  rw [h, ← strB_append', strB_of, take_extract, hm]
theorem two_length (a b : ByteArray) : (two a b).bytes.length = a.size + b.size := by
  show (strN a ++ strN b).length = _
  rw [List.length_append, strN_length, strN_length]
theorem r_a1 (a : ByteArray) (h : a.size ≤ 20000) : (ch1 ⟨[], 0⟩).appendE nA a.size = 0 ∧ (ch1 ⟨[], 0⟩).appendM nA (strN a) = ch1 ⟨strN a, 0⟩ :=
  ch_a1 [] (strN a) 0 a.size (strN_length a).symm (by rw [strN_length]; simp; exact h)
theorem r_a2 (a b : ByteArray) (h : a.size + b.size ≤ 20000) : (ch1 ⟨strN a, (strN a).length⟩).appendE nA b.size = 0 ∧ (ch1 ⟨strN a, (strN a).length⟩).appendM nA (strN b) = ch1 (two a b) :=
  ch_a1 (strN a) (strN b) _ b.size (strN_length b).symm (by rw [strN_length, strN_length]; exact h)
theorem r_b1 (f : FileM) (a : ByteArray) (h : f.bytes.length + a.size ≤ 20000) : (ch2 f ⟨[], 0⟩).appendE nB a.size = 0 ∧ (ch2 f ⟨[], 0⟩).appendM nB (strN a) = ch2 f ⟨strN a, 0⟩ :=
  ch_a2 f [] (strN a) 0 a.size (strN_length a).symm (by rw [strN_length]; simp; exact h)
theorem r_b2 (f : FileM) (a b : ByteArray) (h : f.bytes.length + a.size + b.size ≤ 20000) : (ch2 f ⟨strN a, (strN a).length⟩).appendE nB b.size = 0 ∧ (ch2 f ⟨strN a, (strN a).length⟩).appendM nB (strN b) = ch2 f (two a b) :=
  ch_a2 f (strN a) (strN b) _ b.size (strN_length b).symm (by rw [strN_length, strN_length]; exact h)
end Go.Proofs.Ytdeggklfjdgfjaa
