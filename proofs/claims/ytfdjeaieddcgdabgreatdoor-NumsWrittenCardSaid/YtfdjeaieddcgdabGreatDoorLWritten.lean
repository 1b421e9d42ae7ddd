/-
  WHAT IS PROVED: the walk of the statement NumsWritten.
-/
import Derived.Test.YtfdjeaieddcgdabGreatDoorRefO
import Derived.Test.YtfdjeaieddcgdabGreatDoorTwinO
import Derived.Test.YtfdjeaieddcgdabGreatDoorBkBook
namespace Go.Proofs.YtfdjeaieddcgdabGreatDoor
open Go.RowKit
set_option linter.unusedVariables false

theorem own_lessO {w : World} {base e n m g cap : Nat} {xs ys : List Value} (h : w.ownsRow base e 1 (.slice (some ⟨g, 0, none⟩) (n + m) cap) (n + m) (xs ++ ys)) (hx : xs.length = n) : w.ownsRow base e 1 (.slice (some ⟨g, 0, none⟩) n cap) n xs := by
  refine ⟨by omega, ?_⟩
  rcases h.2 with ⟨h0, _⟩ | ⟨g', cap', cur, h0, h1, h2, h3, h4, h5, h6⟩
  · cases h0
  · simp only [Value.slice.injEq, Option.some.injEq, Addr.mk.injEq, and_true, true_and] at h0
    obtain ⟨rfl, rfl⟩ := h0
    refine .inr ⟨g, cap, cur, rfl, h1, h2, by omega, h4, h5, ?_⟩
    have := congrArg (List.take (n * 1)) h6
    rw [List.take_take, Nat.min_eq_left (by omega), List.take_append_of_le_length (by omega), List.take_of_length_le (l := xs) (by omega)] at this
    exact this
theorem row_ownO {w : World} {base n g cap : Nat} {l : List Nat} (h : w.ownsRow base 5 1 (.slice (some ⟨g, 0, none⟩) n cap) n (cells8 l)) (hn : n = l.length) (hl : ∀ x ∈ l, x < 256) : Row8 w (some ⟨g, 0, none⟩) n cap l := by
  subst hn
  obtain ⟨ao2, cap3, he, hr2, _⟩ := Row8.of_owns h hl
  simp only [Value.slice.injEq] at he
  obtain ⟨rfl, _, rfl⟩ := he
  exact hr2
theorem beyond_two (n m : Nat) (w : World) (hn : n + m ≤ 9223372036854775807) (b : Bool) (hb : decide (1048576 < n + m) = b) :
    Calls Tryz.prog 52 #[.slice (some ⟨w.heap.size, 0, none⟩) 1 1] (w.alloc (.cells #[.int .i64 ((n : Int) + (m : Int))] 3)) fun e w' =>
      e = .returned (.bool b) ∧ w.alloc (.cells #[.int .i64 ((n : Int) + (m : Int))] 3) = w' := beyond_one (n + m) w hn b hb

theorem below_turn {base : Nat} {w w' w2 : World} {S : Nat → Prop} (h : Below base w w') (ht : Turn S w' w2) (hb : base ≤ w'.heap.size) (hs : ∀ k, S k → base ≤ k) : Below base w w2 :=
  ⟨ht.os.trans h.os, ht.tape.trans h.tape, ht.output.trans h.output, by have := h.size; have := ht.size; omega, fun k hk => (ht.block k (by omega) (fun h2 => by have := hs k h2; omega)).trans (h.block k hk)⟩
theorem own_below {w w' : World} {base e size n : Nat} {v : Value} {xs : List Value} (h : w.ownsRow base e size v n xs) (hb : Below w.heap.size w w') : w'.ownsRow base e size v n xs :=
  h.kept ⟨hb.os, hb.tape, hb.output, hb.size, fun k hk _ => hb.block k hk⟩ (by cases h : v.ownBlock <;> simp) (row := none)
theorem turn_below {w w' : World} (hb : Below w.heap.size w w') : Turn (fun _ => False) w w' := ⟨hb.os, hb.tape, hb.output, hb.size, fun k hk _ => hb.block k hk⟩
theorem row_of_own {w : World} {base n cap : Nat} {ao : Option Addr} {l : List Nat} (h : w.ownsRow base 5 1 (.slice ao n cap) n (cells8 l)) (hl : ∀ x ∈ l, x < 256) : Row8 w ao n cap l := by
  have hn : n = l.length := by have := h.1; simp [cells8] at this; omega
  subst hn
  obtain ⟨ao2, cap3, he, hr2, _⟩ := Row8.of_owns h hl
  simp only [Value.slice.injEq] at he
  obtain ⟨rfl, _, rfl⟩ := he
  exact hr2
set_option maxRecDepth 100000 in
set_option maxHeartbeats 4000000 in
theorem written_0 (ao : Option Addr) (n cap : Nat) (l : List Nat) (x : Int) (s : ByteArray) (w : World) (hr : Row8 w ao n cap l) (hx : -9223372036854775808 ≤ x ∧ x ≤ 9223372036854775807) (hs : s.size ≤ 140737488351232) (hn : n ≤ 140737488355328) (hb : 1048576 < n + s.size) :
    Calls Tryz.prog 9 #[.slice ao n cap, .int .i64 x, .string s] w fun e w' => e = .returned (.bool true) ∧ Below w.heap.size w w' := by
  have h1 := hr.room
  have h2 := hr.most
  have hd : decide (1048576 < n + s.size) = true := by simpa using hb
  clear hr
  go_enter Tryz.func9, Tryz.ntmps9
  go_wp2_with fail
  refine (beyond_two n s.size w (by omega) _ hd).mono ?_
  rintro e w' ⟨rfl, rfl⟩
  go_wp2_with fail
  go_ret
  exact ⟨rfl, below_alloc _ _⟩

set_option maxRecDepth 100000 in
set_option maxHeartbeats 8000000 in
theorem written_1 (ao : Option Addr) (n cap : Nat) (l : List Nat) (x : Int) (s : ByteArray) (w : World) (hr : Row8 w ao n cap l) (hx : -9223372036854775808 ≤ x ∧ x ≤ 9223372036854775807) (hb : ¬ 1048576 < n + s.size) :
    Calls Tryz.prog 9 #[.slice ao n cap, .int .i64 x, .string s] w fun e w' => e = .returned (.bool true) ∧ Below w.heap.size w w' := by
  have hlen := hr.len
  subst hlen
  have hbyte := Lib.hid hr.byte
  have hd : decide (1048576 < l.length + s.size) = false := by simpa using hb
  obtain ⟨wA, hwA⟩ : ∃ wA, w.alloc (.cells #[.int .i64 ((l.length : Int) + (s.size : Int))] 3) = wA := ⟨_, rfl⟩
  have HA : Hid (Below w.heap.size w wA) := by rw [← hwA]; exact Lib.hid (below_alloc _ _)
  have HRA := Lib.hid (hr.kept HA.out)
  have HWA := Lib.hid hwA
  have HR0 := Lib.hid hr
  clear hr hwA
  go_enter Tryz.func9, Tryz.ntmps9
  go_wp2_with fail
  refine (beyond_two l.length s.size w (by omega) _ hd).mono ?_
  rintro e w' ⟨rfl, rfl⟩
  rw [HWA.out]
  go_wp2_with fail
  refine (twinO_any ao l.length cap l wA HRA.out (by omega)).mono ?_
  rintro e w1 ⟨g, ct, rfl, ho1, hb1⟩
  have HI1 := Lib.hid ho1
  have HB1 := Lib.hid (HA.out.trans (hb1.mono HA.out.size))
  have HR1 := Lib.hid (HRA.out.kept hb1)
  have HL1 : Hid (w1.ownsRow wA.heap.size 5 1 (.slice (some ⟨g, 0, none⟩) l.length ct) l.length (cells8 l)) := Lib.hid (own_lessO (m := 1) (by rw [cells8_append]; exact ho1) (by simp [cells8]))
  have HN1 := Lib.hid (row_ownO HL1.out rfl hbyte.out)
  clear ho1 hb1
  obtain ⟨N, hN, hNlt⟩ : ∃ N : Nat, IntKind.u64.wrap x = (N : Int) ∧ N < 18446744073709551616 := ⟨(x % 18446744073709551616).toNat, by simp [IntKind.wrap, IntKind.bits, IntKind.signed]; omega, by omega⟩
  have HN := Lib.hid hN
  clear hN
  have hF1 : ∀ k, (Value.slice (some ⟨g, 0, none⟩) l.length ct).ownBlock = some k → w.heap.size ≤ k ∧ k < w1.heap.size := fun k hk => by
    have := HL1.out.lt k hk
    have := HA.out.size
    omega
  have HF1 := Lib.hid hF1
  clear hF1
  go_wp2_with fail
  rw [HN.out]
  refine (putO_any (some ⟨g, 0, none⟩) l.length ct l N hNlt w1 HN1.out (by omega)).mono ?_
  intro e w2 hpost
  obtain ⟨a2, n2, c2, rfl, hr, hl2, ho, hb2⟩ := hpost.row
  have HO2 : Hid (w2.ownsRow w.heap.size 5 1 (.slice a2 n2 c2) n2 (cells8 (l ++ vb N))) := Lib.hid (own_baseO ho HB1.out.size)
  have HY2 := Lib.hid hr.byte
  have HF2 : Hid (∀ k, (Value.slice a2 n2 c2).ownBlock = some k → w1.heap.size ≤ k ∧ k < w2.heap.size) := Lib.hid (fun k hk => ho.lt k hk)
  have HB2 := Lib.hid (HB1.out.trans (hb2.mono HB1.out.size))
  have HR2 := Lib.hid (HR1.out.kept hb2)
  have HI2 := Lib.hid (own_below HI1.out hb2)
  have HL2 := Lib.hid (own_below HL1.out hb2)
  have HN2 := Lib.hid (row_ownO HL2.out rfl hbyte.out)
  have HZ2 := Lib.hid hb2.size
  have HQ2 := Lib.hid hl2
  clear hpost hr ho hb2 hl2
  go_wp2_with fail
  refine (putSignedO_any (some ⟨g, 0, none⟩) l.length ct l x hx w2 HN2.out (by omega)).mono ?_
  intro e w3 hpost
  obtain ⟨a3, n3, c3, rfl, hr, hl3, ho, hb3⟩ := hpost.row
  have HO3 : Hid (w3.ownsRow w.heap.size 5 1 (.slice a3 n3 c3) n3 (cells8 (l ++ vb (foldN x)))) := Lib.hid (own_baseO ho HB2.out.size)
  have HY3 := Lib.hid hr.byte
  have HF3 : Hid (∀ k, (Value.slice a3 n3 c3).ownBlock = some k → w2.heap.size ≤ k ∧ k < w3.heap.size) := Lib.hid (fun k hk => ho.lt k hk)
  have HB3 := Lib.hid (HB2.out.trans (hb3.mono HB2.out.size))
  have HR3 := Lib.hid (HR2.out.kept hb3)
  have HI3 := Lib.hid (own_below HI2.out hb3)
  have HL3 := Lib.hid (own_below HL2.out hb3)
  have HN3 := Lib.hid (row_ownO HL3.out rfl hbyte.out)
  have HZ3 := Lib.hid hb3.size
  have HQ3 := Lib.hid hl3
  have HO2 := Lib.hid (own_below HO2.out hb3)
  clear hpost hr ho hb3 hl3
  go_wp2_with fail
  refine (putTextO_any (some ⟨g, 0, none⟩) l.length ct l s w3 HN3.out (by omega) (by omega)).mono ?_
  intro e w4 hpost
  obtain ⟨a4, n4, c4, rfl, hr, hl4, ho, hb4⟩ := hpost.row
  have HO4 : Hid (w4.ownsRow w.heap.size 5 1 (.slice a4 n4 c4) n4 (cells8 (l ++ vb s.size ++ strN s))) := Lib.hid (own_baseO ho HB3.out.size)
  have HY4 := Lib.hid hr.byte
  have HF4 : Hid (∀ k, (Value.slice a4 n4 c4).ownBlock = some k → w3.heap.size ≤ k ∧ k < w4.heap.size) := Lib.hid (fun k hk => ho.lt k hk)
  have HB4 := Lib.hid (HB3.out.trans (hb4.mono HB3.out.size))
  have HR4 := Lib.hid (HR3.out.kept hb4)
  have HI4 := Lib.hid (own_below HI3.out hb4)
  have HL4 := Lib.hid (own_below HL3.out hb4)
  have HN4 := Lib.hid (row_ownO HL4.out rfl hbyte.out)
  have HZ4 := Lib.hid hb4.size
  have HQ4 := Lib.hid hl4
  have HO2 := Lib.hid (own_below HO2.out hb4)
  have HO3 := Lib.hid (own_below HO3.out hb4)
  clear hpost hr ho hb4 hl4
  go_wp2_with (refine wpList_store_row rfl 82 (.tmp 11) (.tmp 31) rfl w4.heap.size bookC rfl rfl _ _ (heap_alloc_new _ _) (by kernel_rfl) (by rfl) bookC_one ?_)
  obtain ⟨w5, hw5, hat5, hb5⟩ := book_made w4 #[.int .i64 0, .slice none 0 0, .slice none 0 0, .slice none 0 0, .slice none 0 0, .slice none 0 0, .slice none 0 0, .slice none 0 0, .slice none 0 0, .slice none 0 0, .slice none 0 0, .slice none 0 0, .slice none 0 0, .slice none 0 0, .slice none 0 0, .slice none 0 0, .slice none 0 0, .slice none 0 0, .slice none 0 0, .slice none 0 0] 82
  rw [hw5]
  have HK5 := Lib.hid (Bk.start2 hat5 w.heap.size 1 225 5 1 HB4.out.size (by omega) (by omega))
  have HB5 := Lib.hid (HB4.out.trans (hb5.mono HB4.out.size))
  have HR5 := Lib.hid (HR4.out.kept hb5)
  have HI5 := Lib.hid (own_baseO (own_below HI4.out hb5) HA.out.size)
  have HL5 := Lib.hid (own_baseO (own_below HL4.out hb5) HA.out.size)
  have HO2 := Lib.hid (own_below HO2.out hb5)
  have HO3 := Lib.hid (own_below HO3.out hb5)
  have HO4 := Lib.hid (own_below HO4.out hb5)
  have HZ5 := Lib.hid hb5.size
  clear hat5 hb5 hw5
  obtain ⟨B, hB⟩ : ∃ B, w4.heap.size = B := ⟨_, rfl⟩
  have HBB := Lib.hid hB
  rw [hB] at HK5 ⊢
  have HP5 : Hid (B ≤ w5.heap.size) := by rw [← hB]; exact HZ5
  have HG1 : Hid (∀ k, (Value.slice (some ⟨g, 0, none⟩) l.length ct).ownBlock = some k → k < B) := Lib.hid (fun k hk => by have := HF1.out k hk; have := HZ2.out; have := HZ3.out; have := HZ4.out; omega)
  have HG2 : Hid (∀ k, (Value.slice a2 n2 c2).ownBlock = some k → k < B) := Lib.hid (fun k hk => by have := HF2.out k hk; have := HZ3.out; have := HZ4.out; omega)
  have HG3 : Hid (∀ k, (Value.slice a3 n3 c3).ownBlock = some k → k < B) := Lib.hid (fun k hk => by have := HF3.out k hk; have := HZ4.out; omega)
  have HG4 : Hid (∀ k, (Value.slice a4 n4 c4).ownBlock = some k → k < B) := Lib.hid (fun k hk => by have := HF4.out k hk; omega)
  clear hB
  refine (bytes_keep w5 w.heap.size B _ _ (some ⟨g, 0, none⟩) l.length ct _ HK5.out (by simp) (by omega) HL5.out (fun k hk => (by have := HF1.out k hk; have := HZ2.out; have := HZ3.out; have := HZ4.out; have := HBB.out; omega)) (fun y hy k hk hk2 => (by simp at hy))).mono ?_
  rintro e w6 ⟨rfl, ht, hk⟩
  have HT6 := Lib.hid ht
  have HK6 := Lib.hid hk
  have HI6 := Lib.hid (ht.own HI5.out (fun k hk => by have := HG1.out k hk; omega))
  have HL6 := Lib.hid (ht.own HL5.out (fun k hk => by have := HG1.out k hk; omega))
  have HO2 := Lib.hid (ht.own HO2.out (fun k hk => by have := HG2.out k hk; omega))
  have HO3 := Lib.hid (ht.own HO3.out (fun k hk => by have := HG3.out k hk; omega))
  have HO4 := Lib.hid (ht.own HO4.out (fun k hk => by have := HG4.out k hk; omega))
  have HB6 := Lib.hid (below_turn HB5.out ht (Nat.le_trans HB4.out.size (HBB.out.symm ▸ HP5.out)) (fun k hk => Nat.le_trans HB4.out.size (HBB.out.symm ▸ hk)))
  have HP5 := Lib.hid (Nat.le_trans HP5.out ht.size)
  clear ht hk
  go_wp2_with fail
  refine (bytes_keep w6 w.heap.size B _ _ a2 n2 c2 _ HK6.out (by simp) (by omega) HO2.out (fun k hk => (by have := HF2.out k hk; have := HZ2.out; have := HZ3.out; have := HZ4.out; have := HBB.out; omega)) (fun y hy k hk hk2 => (by simp only [List.nil_append, List.cons_append, List.mem_cons, List.not_mem_nil, or_false] at hy; have h2 := HF2.out k hk2; have := HZ2.out; have := HZ3.out; have := HZ4.out; subst hy; (dsimp only at hk; first | (have := HF1.out k hk; omega))))).mono ?_
  rintro e w7 ⟨rfl, ht, hk⟩
  have HT7 := Lib.hid ht
  have HK7 := Lib.hid hk
  have HI7 := Lib.hid (ht.own HI6.out (fun k hk => by have := HG1.out k hk; omega))
  have HL7 := Lib.hid (ht.own HL6.out (fun k hk => by have := HG1.out k hk; omega))
  have HO2 := Lib.hid (ht.own HO2.out (fun k hk => by have := HG2.out k hk; omega))
  have HO3 := Lib.hid (ht.own HO3.out (fun k hk => by have := HG3.out k hk; omega))
  have HO4 := Lib.hid (ht.own HO4.out (fun k hk => by have := HG4.out k hk; omega))
  have HB7 := Lib.hid (below_turn HB6.out ht (Nat.le_trans HB4.out.size (HBB.out.symm ▸ HP5.out)) (fun k hk => Nat.le_trans HB4.out.size (HBB.out.symm ▸ hk)))
  have HP5 := Lib.hid (Nat.le_trans HP5.out ht.size)
  clear ht hk
  go_wp2_with fail
  refine (bytes_keep w7 w.heap.size B _ _ a3 n3 c3 _ HK7.out (by simp) (by omega) HO3.out (fun k hk => (by have := HF3.out k hk; have := HZ2.out; have := HZ3.out; have := HZ4.out; have := HBB.out; omega)) (fun y hy k hk hk2 => (by simp only [List.nil_append, List.cons_append, List.mem_cons, List.not_mem_nil, or_false] at hy; have h2 := HF3.out k hk2; have := HZ2.out; have := HZ3.out; have := HZ4.out; rcases hy with rfl | rfl <;> (dsimp only at hk; first | (have := HF1.out k hk; omega) | (have := HF2.out k hk; omega))))).mono ?_
  rintro e w8 ⟨rfl, ht, hk⟩
  have HT8 := Lib.hid ht
  have HK8 := Lib.hid hk
  have HI8 := Lib.hid (ht.own HI7.out (fun k hk => by have := HG1.out k hk; omega))
  have HL8 := Lib.hid (ht.own HL7.out (fun k hk => by have := HG1.out k hk; omega))
  have HO2 := Lib.hid (ht.own HO2.out (fun k hk => by have := HG2.out k hk; omega))
  have HO3 := Lib.hid (ht.own HO3.out (fun k hk => by have := HG3.out k hk; omega))
  have HO4 := Lib.hid (ht.own HO4.out (fun k hk => by have := HG4.out k hk; omega))
  have HB8 := Lib.hid (below_turn HB7.out ht (Nat.le_trans HB4.out.size (HBB.out.symm ▸ HP5.out)) (fun k hk => Nat.le_trans HB4.out.size (HBB.out.symm ▸ hk)))
  have HP5 := Lib.hid (Nat.le_trans HP5.out ht.size)
  clear ht hk
  go_wp2_with fail
  refine (bytes_keep w8 w.heap.size B _ _ a4 n4 c4 _ HK8.out (by simp) (by omega) HO4.out (fun k hk => (by have := HF4.out k hk; have := HZ2.out; have := HZ3.out; have := HZ4.out; have := HBB.out; omega)) (fun y hy k hk hk2 => (by simp only [List.nil_append, List.cons_append, List.mem_cons, List.not_mem_nil, or_false] at hy; have h2 := HF4.out k hk2; have := HZ2.out; have := HZ3.out; have := HZ4.out; rcases hy with rfl | rfl | rfl <;> (dsimp only at hk; first | (have := HF1.out k hk; omega) | (have := HF2.out k hk; omega) | (have := HF3.out k hk; omega))))).mono ?_
  rintro e w9 ⟨rfl, ht, hk⟩
  have HT9 := Lib.hid ht
  have HK9 := Lib.hid hk
  have HI9 := Lib.hid (ht.own HI8.out (fun k hk => by have := HG1.out k hk; omega))
  have HL9 := Lib.hid (ht.own HL8.out (fun k hk => by have := HG1.out k hk; omega))
  have HO2 := Lib.hid (ht.own HO2.out (fun k hk => by have := HG2.out k hk; omega))
  have HO3 := Lib.hid (ht.own HO3.out (fun k hk => by have := HG3.out k hk; omega))
  have HO4 := Lib.hid (ht.own HO4.out (fun k hk => by have := HG4.out k hk; omega))
  have HB9 := Lib.hid (below_turn HB8.out ht (Nat.le_trans HB4.out.size (HBB.out.symm ▸ HP5.out)) (fun k hk => Nat.le_trans HB4.out.size (HBB.out.symm ▸ hk)))
  have HP5 := Lib.hid (Nat.le_trans HP5.out ht.size)
  clear ht hk
  go_wp2_with fail
  rw [HN.out]
  refine (refPut_any ao l.length cap l N hNlt w9 (HR0.out.kept HB9.out) (by omega)).mono ?_
  rintro e w10 ⟨ar, nr, cr, rfl, hrow, _, hb⟩
  obtain rfl : n2 = nr := by rw [HQ2.out]; exact hrow.len
  have HRR := Lib.hid hrow
  have HB10 := Lib.hid (HB9.out.trans (hb.mono HB9.out.size))
  have HI10 := Lib.hid (own_below HI9.out hb)
  have HL10 := Lib.hid (own_below HL9.out hb)
  have HO2 := Lib.hid (own_below HO2.out hb)
  have HO3 := Lib.hid (own_below HO3.out hb)
  have HO4 := Lib.hid (own_below HO4.out hb)
  have HK10 := Lib.hid (HK9.out.kept (turn_below hb) (fun _ _ => id))
  clear hb hrow
  go_wp2_with fail
  refine (sameBytes_same6 _ _ _ _ _ _ w10 (row_of_own HO2.out HY2.out) HRR.out).mono ?_
  rintro e w11 ⟨rfl, hb⟩
  have HB11 := Lib.hid (HB10.out.trans (hb.mono HB10.out.size))
  have HI11 := Lib.hid (own_below HI10.out hb)
  have HL11 := Lib.hid (own_below HL10.out hb)
  have HO2 := Lib.hid (own_below HO2.out hb)
  have HO3 := Lib.hid (own_below HO3.out hb)
  have HO4 := Lib.hid (own_below HO4.out hb)
  have HK11 := Lib.hid (HK10.out.kept (turn_below hb) (fun _ _ => id))
  clear hb HRR
  go_wp2_with fail
  refine (refPutSigned_any ao l.length cap l x hx w11 (HR0.out.kept HB11.out) (by omega)).mono ?_
  rintro e w12 ⟨ar, nr, cr, rfl, hrow, _, hb⟩
  obtain rfl : n3 = nr := by rw [HQ3.out]; exact hrow.len
  have HRR := Lib.hid hrow
  have HB12 := Lib.hid (HB11.out.trans (hb.mono HB11.out.size))
  have HI12 := Lib.hid (own_below HI11.out hb)
  have HL12 := Lib.hid (own_below HL11.out hb)
  have HO2 := Lib.hid (own_below HO2.out hb)
  have HO3 := Lib.hid (own_below HO3.out hb)
  have HO4 := Lib.hid (own_below HO4.out hb)
  have HK12 := Lib.hid (HK11.out.kept (turn_below hb) (fun _ _ => id))
  clear hb hrow
  go_wp2_with fail
  refine (sameBytes_same6 _ _ _ _ _ _ w12 (row_of_own HO3.out HY3.out) HRR.out).mono ?_
  rintro e w13 ⟨rfl, hb⟩
  have HB13 := Lib.hid (HB12.out.trans (hb.mono HB12.out.size))
  have HI13 := Lib.hid (own_below HI12.out hb)
  have HL13 := Lib.hid (own_below HL12.out hb)
  have HO2 := Lib.hid (own_below HO2.out hb)
  have HO3 := Lib.hid (own_below HO3.out hb)
  have HO4 := Lib.hid (own_below HO4.out hb)
  have HK13 := Lib.hid (HK12.out.kept (turn_below hb) (fun _ _ => id))
  clear hb HRR
  go_wp2_with fail
  refine (refPutText_any ao l.length cap l s w13 (HR0.out.kept HB13.out) (by omega) (by omega)).mono ?_
  rintro e w14 ⟨ar, nr, cr, rfl, hrow, _, hb⟩
  obtain rfl : n4 = nr := by rw [HQ4.out]; exact hrow.len
  have HRR := Lib.hid hrow
  have HB14 := Lib.hid (HB13.out.trans (hb.mono HB13.out.size))
  have HI14 := Lib.hid (own_below HI13.out hb)
  have HL14 := Lib.hid (own_below HL13.out hb)
  have HO2 := Lib.hid (own_below HO2.out hb)
  have HO3 := Lib.hid (own_below HO3.out hb)
  have HO4 := Lib.hid (own_below HO4.out hb)
  have HK14 := Lib.hid (HK13.out.kept (turn_below hb) (fun _ _ => id))
  clear hb hrow
  go_wp2_with fail
  refine (sameBytes_same6 _ _ _ _ _ _ w14 (row_of_own HO4.out HY4.out) HRR.out).mono ?_
  rintro e w15 ⟨rfl, hb⟩
  have HB15 := Lib.hid (HB14.out.trans (hb.mono HB14.out.size))
  have HI15 := Lib.hid (own_below HI14.out hb)
  have HL15 := Lib.hid (own_below HL14.out hb)
  have HO2 := Lib.hid (own_below HO2.out hb)
  have HO3 := Lib.hid (own_below HO3.out hb)
  have HO4 := Lib.hid (own_below HO4.out hb)
  have HK15 := Lib.hid (HK14.out.kept (turn_below hb) (fun _ _ => id))
  clear hb HRR
  go_wp2_with fail
  refine (leftBytes_yes ao l.length cap g ct l w15 (row_of_own HI15.out (by intro x hx; rcases List.mem_append.1 hx with h | h; exact hbyte.out x h; rw [List.mem_singleton.1 h]; decide)) (HR0.out.kept HB15.out)).mono ?_
  rintro e w16 ⟨rfl, hb⟩
  have HB16 := Lib.hid (HB15.out.trans (hb.mono HB15.out.size))
  have HI16 := Lib.hid (own_below HI15.out hb)
  have HL16 := Lib.hid (own_below HL15.out hb)
  have HO2 := Lib.hid (own_below HO2.out hb)
  have HO3 := Lib.hid (own_below HO3.out hb)
  have HO4 := Lib.hid (own_below HO4.out hb)
  have HK16 := Lib.hid (HK15.out.kept (turn_below hb) (fun _ _ => id))
  clear hb
  go_wp2_with fail
  have HNN : Hid (∀ y ∈ [] ++ [(⟨.slice (some ⟨g, 0, none⟩) l.length ct, .slice none 0 0, l.length, 0 + 1⟩ : Ent)] ++ [⟨.slice a2 n2 c2, .slice none 0 0, n2, 0 + 1 + 1⟩] ++ [⟨.slice a3 n3 c3, .slice none 0 0, n3, 0 + 1 + 1 + 1⟩] ++ [⟨.slice a4 n4 c4, .slice none 0 0, n4, 0 + 1 + 1 + 1 + 1⟩], y.n ≤ 1099511627776) := Lib.hid (fun y hy => by
    have h1 := vb_len64 hNlt
    have h2 := vb_len64 (fold_lt x hx)
    have h3 := vb_len64 (n := s.size) (by omega)
    have h4 := HQ2.out
    have h5 := HQ3.out
    have h6 := HQ4.out
    have h7 : (strN s).length = s.size := by unfold strN; rw [List.length_map, Array.length_toList]; rfl
    simp only [List.length_append] at h4 h5 h6
    simp only [List.nil_append, List.append_assoc, List.cons_append, List.mem_cons, List.not_mem_nil, or_false] at hy
    rcases hy with rfl | rfl | rfl | rfl <;> dsimp only <;> omega)
  have HBN : Hid (∀ y ∈ [] ++ [(⟨.slice (some ⟨g, 0, none⟩) l.length ct, .slice none 0 0, l.length, 0 + 1⟩ : Ent)] ++ [⟨.slice a2 n2 c2, .slice none 0 0, n2, 0 + 1 + 1⟩] ++ [⟨.slice a3 n3 c3, .slice none 0 0, n3, 0 + 1 + 1 + 1⟩] ++ [⟨.slice a4 n4 c4, .slice none 0 0, n4, 0 + 1 + 1 + 1 + 1⟩], ∀ k, y.v.ownBlock = some k → w.heap.size ≤ k) := Lib.hid (fun y hy k hk => by
    have h1 := HB1.out.size
    have h2 := HB2.out.size
    have h3 := HB3.out.size
    simp only [List.nil_append, List.append_assoc, List.cons_append, List.mem_cons, List.not_mem_nil, or_false] at hy
    rcases hy with rfl | rfl | rfl | rfl <;> dsimp only at hk
    · have := HF1.out k hk; omega
    · have := HF2.out k hk; omega
    · have := HF3.out k hk; omega
    · have := HF4.out k hk; omega)
  refine (bytes_apart w16 w.heap.size B _ _ HK16.out (by simp) (by omega) HNN.out HBN.out).mono ?_
  rintro e w99 ⟨rfl, ht⟩
  have HBZ := Lib.hid (below_turn HB16.out ht (Nat.le_trans HK16.out.at_.1 (Nat.le_of_lt HK16.out.at_.2)) (fun _ h => h))
  clear ht
  go_wp2_with fail
  go_ret
  exact ⟨rfl, HBZ.out⟩

theorem walk_NumsWritten (ao : Option Addr) (n cap : Nat) (l : List Nat) {w : World} (hr : Row8 w ao n cap l ∧ n ≤ 140737488355328) (x : Int) (hx : (Lit.int .i64 x).wf = true) (s : ByteArray) (hs : s.size ≤ 140737488351232) :
    Calls Tryz.prog 9 #[.slice ao n cap, .int .i64 x, .string s] w fun e w' => e = .returned (.bool true) ∧ Below w.heap.size w w' := by
  have h := wf_i64 hx
  by_cases hb : 1048576 < n + s.size
  · exact written_0 ao n cap l x s w hr.1 (by omega) hs hr.2 hb
  · exact written_1 ao n cap l x s w hr.1 (by omega) hb
end Go.Proofs.YtfdjeaieddcgdabGreatDoor
