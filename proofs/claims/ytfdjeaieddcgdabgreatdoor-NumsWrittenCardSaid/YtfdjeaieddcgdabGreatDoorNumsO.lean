/-
  WHAT IS PROVED: what nums writes, as memory of the call's own.
-/
import Derived.Test.YtfdjeaieddcgdabGreatDoorNumsC
import Derived.Test.YtfdjeaieddcgdabGreatDoorBkBase
namespace Go.Proofs.YtfdjeaieddcgdabGreatDoor
open Go.RowKit
set_option linter.unusedVariables false

theorem own_baseO {w : World} {b base e size n : Nat} {v : Value} {xs : List Value} (h : w.ownsRow base e size v n xs) (hb : b ≤ base) : w.ownsRow b e size v n xs := by
  refine ⟨h.1, ?_⟩
  rcases h.2 with h0 | ⟨g, cap, cur, h1, h2, h3⟩
  · exact .inl h0
  · exact .inr ⟨g, cap, cur, h1, Nat.le_trans hb h2, h3⟩
/-- what is handed back: bytes in memory of the call's own -/
def NewO (w : World) (l : List Nat) (e : Ending) (w' : World) : Prop :=
  ∃ a n cap, e = .returned (.slice a n cap) ∧ (w'.ownsRow w.heap.size 5 1 (.slice a n cap) n (cells8 l) ∧ n = l.length ∧ ∀ x ∈ l, x < 256) ∧ Below w.heap.size w w'
theorem newO_of {w w' w0 : World} {e : Ending} {v : Value} {l : List Nat} (he : e = .returned v) (hown : w'.ownsRow w0.heap.size 5 1 v l.length (cells8 l)) (hb : Below w.heap.size w w') (h0 : w.heap.size ≤ w0.heap.size) (hl : ∀ x ∈ l, x < 256) : NewO w l e w' := by
  obtain ⟨ao, cap, rfl⟩ := own_slice3 hown
  exact ⟨ao, _, cap, he, ⟨own_baseO hown h0, rfl, hl⟩, hb⟩

set_option maxHeartbeats 1000000 in
theorem putO_any (ao : Option Addr) (n cap : Nat) (l : List Nat) (m : Nat) (hm : m < 18446744073709551616) (w : World) (hr : Row8 w ao n cap l) (hn : n ≤ 4294967296) :
    Calls Tryz.prog 53 #[.slice ao n cap, .int .u64 (m : Int)] w (NewO w (l ++ vb m)) := by
  have HR := Lib.hid hr
  clear hr
  go_enter Tryz.func53, Tryz.ntmps53
  go_wp2_with fail
  refine (bytesOf_any m hm w).mono ?_
  rintro e w1 ⟨v, rfl, hown, hb⟩
  obtain ⟨a1, c1, rfl, hr1, ha1⟩ := Row8.of_owns hown (vb_byte m)
  have HR1 := Lib.hid hr1
  have hl10 := vb_len64 hm
  clear hr1 hown ha1
  go_wp2_with fail
  have hP := parts2 w1 ⟨ao, n, cap, l⟩ ⟨a1, (vb m).length, c1, vb m⟩ (HR.out.kept hb) HR1.out
  refine (collect_any w1.heap.size 2 [⟨ao, n, cap, l⟩, ⟨a1, (vb m).length, c1, vb m⟩] _ hP (by simp) (by simp [total]; omega)).mono ?_
  rintro e w2 ⟨v, rfl, hown, hb2⟩
  go_wp2
  go_ret
  have hf : flat [⟨ao, n, cap, l⟩, ⟨a1, (vb m).length, c1, vb m⟩] = l ++ vb m := by simp [flat]
  rw [hf] at hown
  refine newO_of rfl hown ?_ (by have := hb.size; simp; omega) ?_
  · exact (hb.alloc hb.size _).trans (hb2.mono (by have := hb.size; simp; omega))
  · intro x hx
    rcases List.mem_append.1 hx with h | h
    · exact HR.out.byte x h
    · exact vb_byte m x h

theorem putSignedO_any (ao : Option Addr) (n cap : Nat) (l : List Nat) (x : Int) (hx : -9223372036854775808 ≤ x ∧ x ≤ 9223372036854775807) (w : World) (hr : Row8 w ao n cap l) (hn : n ≤ 4294967296) :
    Calls Tryz.prog 54 #[.slice ao n cap, .int .i64 x] w (NewO w (l ++ vb (foldN x))) := by
  have HR := Lib.hid hr
  clear hr
  go_enter Tryz.func54, Tryz.ntmps54
  go_wp2_with fail
  refine (fold_any x hx w).mono ?_
  rintro e w' ⟨rfl, rfl⟩
  go_wp2_with fail
  refine (putO_any ao n cap l (foldN x) (fold_lt x hx) w HR.out hn).mono ?_
  rintro e w1 ⟨a, n1, c1, rfl, h1, h2⟩
  have H1 := Lib.hid h1
  clear h1
  go_wp2
  go_ret
  exact ⟨a, n1, c1, rfl, H1.out, h2⟩

set_option maxHeartbeats 1000000 in
theorem putTextO_any (ao : Option Addr) (n cap : Nat) (l : List Nat) (s : ByteArray) (w : World) (hr : Row8 w ao n cap l) (hn : n ≤ 4294967296) (hs : s.size ≤ 4294967296) :
    Calls Tryz.prog 55 #[.slice ao n cap, .string s] w (NewO w (l ++ vb s.size ++ strN s)) := by
  have HR := Lib.hid hr
  clear hr
  have hcv := fun w : World => run_bytes_of_string (P := Tryz.prog) w 9 29 5 s Tryz.underlying9 Tryz.underlying29 Tryz.underlying5
  go_enter Tryz.func55, Tryz.ntmps55
  go_wp2_with fail
  refine (bytesOf_any s.size (by omega) w).mono ?_
  rintro e w1 ⟨v, rfl, hown, hb⟩
  obtain ⟨a1, c1, rfl, hr1, ha1⟩ := Row8.of_owns hown (vb_byte s.size)
  have HR1 := Lib.hid hr1
  have hl10 := vb_len64 (n := s.size) (by omega)
  clear hr1 hown ha1
  go_wp2_with fail
  have h2 := row_of_str w1 s hs
  have hP := (parts3 (w1.alloc (.cells (bytesRow s (grownCap w1 s.size 0 5)) 5 ((bytesRow s (grownCap w1 s.size 0 5)).size, (bytesRow s (grownCap w1 s.size 0 5)).size + 1)))
    ⟨ao, n, cap, l⟩ ⟨a1, (vb s.size).length, c1, vb s.size⟩ ⟨some ⟨w1.heap.size, 0, none⟩, s.size, grownCap w1 s.size 0 5, strN s⟩ ((HR.out.kept hb).alloc _) (HR1.out.alloc _) h2).kept (Below.refl _ _).drew
  have hz : (w1.alloc (.cells (bytesRow s (grownCap w1 s.size 0 5)) 5 ((bytesRow s (grownCap w1 s.size 0 5)).size, (bytesRow s (grownCap w1 s.size 0 5)).size + 1))).heap.size = w1.heap.size + 1 := by simp
  rw [hz] at hP
  refine (collect_any (w1.heap.size + 1) 3 [⟨ao, n, cap, l⟩, ⟨a1, (vb s.size).length, c1, vb s.size⟩, ⟨some ⟨w1.heap.size, 0, none⟩, s.size, grownCap w1 s.size 0 5, strN s⟩] _ hP (by simp) (by simp [total]; omega)).mono ?_
  rintro e w2 ⟨v, rfl, hown, hb2⟩
  have hs1 := hb.size
  clear hP h2 hz hcv
  go_wp2
  go_ret
  have hf : flat [⟨ao, n, cap, l⟩, ⟨a1, (vb s.size).length, c1, vb s.size⟩, ⟨some ⟨w1.heap.size, 0, none⟩, s.size, grownCap w1 s.size 0 5, strN s⟩] = l ++ vb s.size ++ strN s := by simp [flat]
  rw [hf] at hown
  refine newO_of rfl hown ?_ (by simp; omega) ?_
  · exact (((hb.alloc hs1 _).alloc (by simp; omega) _).drew).trans (hb2.mono (by simp; omega))
  · intro x hx
    simp only [List.mem_append] at hx
    rcases hx with (h | h) | h
    · exact HR.out.byte x h
    · exact vb_byte _ x h
    · obtain ⟨y, _, rfl⟩ := List.mem_map.1 h
      exact y.toNat_lt
end Go.Proofs.YtfdjeaieddcgdabGreatDoor
