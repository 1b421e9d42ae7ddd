/-
  WHAT IS PROVED: values as bytes: Put; an integer as bytes that stand in order.
-/
import Derived.Test.YtjjfmmimmfihgabGreatDoorRowC
import Derived.Laws.Bits64
namespace Go.Proofs.YtjjfmmimmfihgabGreatDoor
open Go.RowKit Go.Lib
set_option linter.unusedVariables false

/-- bytes in new memory, and no error -/
def Good8 (w : World) (l : List Nat) (e : Ending) (w' : World) : Prop :=
  ∃ a n cap, e = .returned (.tuple #[.slice a n cap, .int .i64 0]) ∧ Row8 w' a n cap l ∧ (∀ x, a = some x → w.heap.size ≤ x.block ∧ x.off = 0 ∧ x.spot = none) ∧ Below w.heap.size w w'
/-- nothing, and an error -/
def Bad8 (w : World) (er : Nat) (e : Ending) (w' : World) : Prop := e = .returned (.tuple #[.slice none 0 0, .int .i64 (er : Int)]) ∧ Below w.heap.size w w'
theorem chkV_ok {l : List Val} (h : chkV l = 0) : l.length ≤ 16 ∧ ∀ x ∈ l, x.fine = true := by
  unfold chkV at h
  split at h
  · omega
  · split at h
    · omega
    · rename_i h1 h2
      refine ⟨by omega, fun x hx => ?_⟩
      have h3 : l.all Val.fine = true := by simpa using h2
      exact List.all_eq_true.1 h3 x hx
theorem Val.fine_size' {x : Val} (h : x.fine = true) : x.s.size ≤ 512 := by
  rcases Val.fine_cases h with rfl | ⟨n, rfl⟩ | ⟨s, rfl, hs⟩
  · show (0 : Nat) ≤ 512; omega
  · show (0 : Nat) ≤ 512; omega
  · exact hs
set_option maxRecDepth 100000 in
set_option maxHeartbeats 4000000 in
theorem rput_ok (ao : Option Addr) (n cap : Nat) (vs : List Val) (w : World) (hr : RowV w ao n cap vs) (hc : chkV vs = 0) :
    Calls Tryz.prog 9 #[.slice ao n cap] w (Good8 w (encL vs)) := by
  have HR := Lib.hid hr
  have hok := chkV_ok hc
  have hlen := hr.len
  have HF := Lib.hid (fun x (hx : x ∈ vs) => Val.fine_size' (hok.2 x hx))
  have h16 : n ≤ 16 := by omega
  clear hok hr
  go_enter Tryz.func9, Tryz.ntmps9
  go_wp2_with fail
  refine (rcheckV_any ao n cap vs _ HR.out).mono ?_
  rw [hc]
  rintro e w1 ⟨rfl, hb⟩
  have HB1 := Lib.hid hb
  clear hb hc
  go_wp2_with fail
  obtain ⟨b1, hb1⟩ : ∃ b, b = w1.heap.size := ⟨_, rfl⟩
  obtain ⟨w2, hw2⟩ : ∃ w2, w2 = w1.alloc (.cells #[.slice none 0 0] 70) := ⟨_, rfl⟩
  have H2 : Hid (Wr w.heap.size b1 [] (.slice none 0 0) w2) := Lib.hid (by
    rw [hw2, hb1]
    exact ⟨heap_alloc_new w1 _, World.ownsRow_nil _ _ _ _, HB1.out.size, by have := HB1.out.size; simp; omega, fun _ h => by cases h⟩)
  have HB2 : Hid (Below w.heap.size w w2) := Lib.hid (by rw [hw2]; exact HB1.out.alloc HB1.out.size _)
  rw [← hw2, ← hb1]
  clear hw2 hb1
  refine (putListV_any w.heap.size b1 [] (.slice none 0 0) ao n cap vs w2 H2.out (HR.out.kept HB2.out) HR.out.lt HF.out (by omega) (by simp)).mono ?_
  rintro e w3 ⟨rfl, ht, v, h3⟩
  rw [List.nil_append] at h3
  obtain ⟨ao3, c3, rfl, hr3, hn3⟩ := Row8.of_owns h3.own h3.byte
  have s3 : w3.cell? ⟨b1, 0, none⟩ = some (.slice ao3 (encL vs).length c3) := cell_of_block h3.at_ 0
  have H3 := Lib.hid (And.intro hr3 (And.intro hn3 (HB2.out.trans ht.below)))
  clear h3 hr3 hn3 ht
  go_wp2
  go_ret2
  exact ⟨_, _, _, rfl, H3.out.1, H3.out.2.1, H3.out.2.2⟩
theorem rput_no (ao : Option Addr) (n cap : Nat) (vs : List Val) (er : Nat) (w : World) (hr : RowV w ao n cap vs) (hc : chkV vs = er) (he : er ≠ 0) :
    Calls Tryz.prog 9 #[.slice ao n cap] w (Bad8 w er) := by
  have HR := Lib.hid hr
  have h0 : ((er : Int) != 0) = true := by simpa using he
  clear hr he
  go_enter Tryz.func9, Tryz.ntmps9
  go_wp2_with fail
  refine (rcheckV_any ao n cap vs _ HR.out).mono ?_
  rw [hc]
  rintro e w1 ⟨rfl, hb⟩
  have HB1 := Lib.hid hb
  clear hb hc
  go_wp2_with fail
  go_ret2
  exact ⟨rfl, HB1.out⟩
theorem xor_top (a : Nat) (h : a < 9223372036854775808) : a ^^^ 9223372036854775808 = a + 9223372036854775808 := by
  have h1 := Nat.two_pow_add_eq_or_of_lt (i := 63) (b := a) h 1
  rw [Nat.mul_one] at h1
  rw [show (9223372036854775808 : Nat) = 2 ^ 63 from rfl, Nat.add_comm, h1]
  apply Nat.eq_of_testBit_eq
  intro j
  rw [Nat.testBit_xor, Nat.testBit_or, Nat.testBit_two_pow]
  by_cases hj : 63 = j
  · subst hj
    have : a.testBit 63 = false := Nat.testBit_lt_two_pow (by omega)
    simp [this]
  · simp [hj]
theorem xor_top2 (a : Nat) (h : a < 9223372036854775808) : (a + 9223372036854775808) ^^^ 9223372036854775808 = a := by
  rw [← xor_top a h, Nat.xor_assoc, Nat.xor_self, Nat.xor_zero]
theorem top_val (i : Int) (hi : -9223372036854775808 ≤ i ∧ i ≤ 9223372036854775807) : bits .xor .u64 (IntKind.u64.wrap i) 9223372036854775808 = ((i + 9223372036854775808).toNat : Int) := by
  rw [IntKind.wrap_u64]
  rcases Int.lt_or_le i 0 with h | h
  · obtain ⟨a, ha⟩ := Int.eq_ofNat_of_zero_le (show 0 ≤ i + 9223372036854775808 by omega)
    have e : i % 18446744073709551616 = ((a + 9223372036854775808 : Nat) : Int) := by omega
    rw [e, show (9223372036854775808 : Int) = ((9223372036854775808 : Nat) : Int) from rfl, bits_xor_u64_nat _ _ (by omega) (by omega), xor_top2 a (by omega)]
    omega
  · obtain ⟨a, rfl⟩ := Int.eq_ofNat_of_zero_le h
    have e : (a : Int) % 18446744073709551616 = (a : Int) := by omega
    rw [e, show (9223372036854775808 : Int) = ((9223372036854775808 : Nat) : Int) from rfl, bits_xor_u64_nat _ _ (by omega) (by omega), xor_top a (by omega)]
    omega
/-- an integer's bytes, the greatest place first; the sign's bit turned -/
def riseB (i : Int) : List Nat := [(i + 9223372036854775808).toNat / 72057594037927936 % 256, (i + 9223372036854775808).toNat / 281474976710656 % 256, (i + 9223372036854775808).toNat / 1099511627776 % 256, (i + 9223372036854775808).toNat / 4294967296 % 256, (i + 9223372036854775808).toNat / 16777216 % 256, (i + 9223372036854775808).toNat / 65536 % 256, (i + 9223372036854775808).toNat / 256 % 256, (i + 9223372036854775808).toNat / 1 % 256]
set_option maxRecDepth 100000 in
set_option maxHeartbeats 4000000 in
theorem rising_any (i : Int) (hi : -9223372036854775808 ≤ i ∧ i ≤ 9223372036854775807) (w : World) :
    Calls Tryz.prog 28 #[.int .i64 i] w (New8 w (riseB i)) := by
  obtain ⟨m, hm⟩ : ∃ m, m = (i + 9223372036854775808).toNat := ⟨_, rfl⟩
  have hx : bits .xor .u64 (IntKind.u64.wrap i) 9223372036854775808 = (m : Int) := by rw [hm]; exact top_val i hi
  obtain ⟨c0, hc0⟩ : ∃ c, c = m / 72057594037927936 % 256 := ⟨_, rfl⟩
  have p0 : (m : Int) / 72057594037927936 % 256 = (c0 : Int) := by omega
  have b0 : c0 < 256 := by omega
  obtain ⟨c1, hc1⟩ : ∃ c, c = m / 281474976710656 % 256 := ⟨_, rfl⟩
  have p1 : (m : Int) / 281474976710656 % 256 = (c1 : Int) := by omega
  have b1 : c1 < 256 := by omega
  obtain ⟨c2, hc2⟩ : ∃ c, c = m / 1099511627776 % 256 := ⟨_, rfl⟩
  have p2 : (m : Int) / 1099511627776 % 256 = (c2 : Int) := by omega
  have b2 : c2 < 256 := by omega
  obtain ⟨c3, hc3⟩ : ∃ c, c = m / 4294967296 % 256 := ⟨_, rfl⟩
  have p3 : (m : Int) / 4294967296 % 256 = (c3 : Int) := by omega
  have b3 : c3 < 256 := by omega
  obtain ⟨c4, hc4⟩ : ∃ c, c = m / 16777216 % 256 := ⟨_, rfl⟩
  have p4 : (m : Int) / 16777216 % 256 = (c4 : Int) := by omega
  have b4 : c4 < 256 := by omega
  obtain ⟨c5, hc5⟩ : ∃ c, c = m / 65536 % 256 := ⟨_, rfl⟩
  have p5 : (m : Int) / 65536 % 256 = (c5 : Int) := by omega
  have b5 : c5 < 256 := by omega
  obtain ⟨c6, hc6⟩ : ∃ c, c = m / 256 % 256 := ⟨_, rfl⟩
  have p6 : (m : Int) / 256 % 256 = (c6 : Int) := by omega
  have b6 : c6 < 256 := by omega
  obtain ⟨c7, hc7⟩ : ∃ c, c = m / 1 % 256 := ⟨_, rfl⟩
  have p7 : (m : Int) % 256 = (c7 : Int) := by omega
  have b7 : c7 < 256 := by omega
  have HE : Hid ([c0, c1, c2, c3, c4, c5, c6, c7] = riseB i) := Lib.hid (by unfold riseB; rw [← hm, ← hc0, ← hc1, ← hc2, ← hc3, ← hc4, ← hc5, ← hc6, ← hc7])
  clear hm hc0 hc1 hc2 hc3 hc4 hc5 hc6 hc7
  have H0 := Lib.hid (World.ownsRow_nil w w.heap.size 5 1)
  have HB0 := Lib.hid (Below.refl w.heap.size w)
  obtain ⟨v0, hv0⟩ : ∃ v, v = Value.slice none 0 0 := ⟨_, rfl⟩
  go_enter Tryz.func28, Tryz.ntmps28
  go_wp2_with fail
  refine wp_loop_rounds 9 ?_
  clear hv0
  rw [rounds_succ]
  have HR0 := Lib.hid (row_new w [c0] 1 w.heap.size (0, 0) rfl rfl (by intro x hx; simp at hx; omega) (by omega))
  go_wp2_with (at_builtin; refine wpList_append_row rfl (.tmp 13) (.tmp 18) rfl w.heap.size _ 0 [] rfl (H0.out.alloc _) (some ⟨w.heap.size, 0, none⟩) 1 1 [c0] rfl HR0.out (by omega) (by have := HB0.out.size; simp <;> omega) ?_)
  intro v1 w1 hown hg
  have HB1 : Hid (Below w.heap.size w w1) := Lib.hid ((HB0.out.alloc HB0.out.size _).grown hg (by have := HB0.out.size; simp <;> omega) (fun k hk => (H0.out.lt k hk).1))
  have H1 : Hid (w1.ownsRow w.heap.size 5 1 v1 1 (cells8 [c0])) := Lib.hid hown
  clear hown hg HB0 H0 HR0
  go_wp2_with fail
  rw [rounds_succ]
  have HR1 := Lib.hid (row_new w1 [c1] 1 w1.heap.size (0, 0) rfl rfl (by intro x hx; simp at hx; omega) (by omega))
  go_wp2_with (at_builtin; refine wpList_append_row rfl (.tmp 13) (.tmp 18) rfl w.heap.size _ 1 [c0] rfl (H1.out.alloc _) (some ⟨w1.heap.size, 0, none⟩) 1 1 [c1] rfl HR1.out (by omega) (by have := HB1.out.size; simp <;> omega) ?_)
  intro v2 w2 hown hg
  have HB2 : Hid (Below w.heap.size w w2) := Lib.hid ((HB1.out.alloc HB1.out.size _).grown hg (by have := HB1.out.size; simp <;> omega) (fun k hk => (H1.out.lt k hk).1))
  have H2 : Hid (w2.ownsRow w.heap.size 5 1 v2 2 (cells8 [c0, c1])) := Lib.hid hown
  clear hown hg HB1 H1 HR1
  go_wp2_with fail
  rw [rounds_succ]
  have HR2 := Lib.hid (row_new w2 [c2] 1 w2.heap.size (0, 0) rfl rfl (by intro x hx; simp at hx; omega) (by omega))
  go_wp2_with (at_builtin; refine wpList_append_row rfl (.tmp 13) (.tmp 18) rfl w.heap.size _ 2 [c0, c1] rfl (H2.out.alloc _) (some ⟨w2.heap.size, 0, none⟩) 1 1 [c2] rfl HR2.out (by omega) (by have := HB2.out.size; simp <;> omega) ?_)
  intro v3 w3 hown hg
  have HB3 : Hid (Below w.heap.size w w3) := Lib.hid ((HB2.out.alloc HB2.out.size _).grown hg (by have := HB2.out.size; simp <;> omega) (fun k hk => (H2.out.lt k hk).1))
  have H3 : Hid (w3.ownsRow w.heap.size 5 1 v3 3 (cells8 [c0, c1, c2])) := Lib.hid hown
  clear hown hg HB2 H2 HR2
  go_wp2_with fail
  rw [rounds_succ]
  have HR3 := Lib.hid (row_new w3 [c3] 1 w3.heap.size (0, 0) rfl rfl (by intro x hx; simp at hx; omega) (by omega))
  go_wp2_with (at_builtin; refine wpList_append_row rfl (.tmp 13) (.tmp 18) rfl w.heap.size _ 3 [c0, c1, c2] rfl (H3.out.alloc _) (some ⟨w3.heap.size, 0, none⟩) 1 1 [c3] rfl HR3.out (by omega) (by have := HB3.out.size; simp <;> omega) ?_)
  intro v4 w4 hown hg
  have HB4 : Hid (Below w.heap.size w w4) := Lib.hid ((HB3.out.alloc HB3.out.size _).grown hg (by have := HB3.out.size; simp <;> omega) (fun k hk => (H3.out.lt k hk).1))
  have H4 : Hid (w4.ownsRow w.heap.size 5 1 v4 4 (cells8 [c0, c1, c2, c3])) := Lib.hid hown
  clear hown hg HB3 H3 HR3
  go_wp2_with fail
  rw [rounds_succ]
  have HR4 := Lib.hid (row_new w4 [c4] 1 w4.heap.size (0, 0) rfl rfl (by intro x hx; simp at hx; omega) (by omega))
  go_wp2_with (at_builtin; refine wpList_append_row rfl (.tmp 13) (.tmp 18) rfl w.heap.size _ 4 [c0, c1, c2, c3] rfl (H4.out.alloc _) (some ⟨w4.heap.size, 0, none⟩) 1 1 [c4] rfl HR4.out (by omega) (by have := HB4.out.size; simp <;> omega) ?_)
  intro v5 w5 hown hg
  have HB5 : Hid (Below w.heap.size w w5) := Lib.hid ((HB4.out.alloc HB4.out.size _).grown hg (by have := HB4.out.size; simp <;> omega) (fun k hk => (H4.out.lt k hk).1))
  have H5 : Hid (w5.ownsRow w.heap.size 5 1 v5 5 (cells8 [c0, c1, c2, c3, c4])) := Lib.hid hown
  clear hown hg HB4 H4 HR4
  go_wp2_with fail
  rw [rounds_succ]
  have HR5 := Lib.hid (row_new w5 [c5] 1 w5.heap.size (0, 0) rfl rfl (by intro x hx; simp at hx; omega) (by omega))
  go_wp2_with (at_builtin; refine wpList_append_row rfl (.tmp 13) (.tmp 18) rfl w.heap.size _ 5 [c0, c1, c2, c3, c4] rfl (H5.out.alloc _) (some ⟨w5.heap.size, 0, none⟩) 1 1 [c5] rfl HR5.out (by omega) (by have := HB5.out.size; simp <;> omega) ?_)
  intro v6 w6 hown hg
  have HB6 : Hid (Below w.heap.size w w6) := Lib.hid ((HB5.out.alloc HB5.out.size _).grown hg (by have := HB5.out.size; simp <;> omega) (fun k hk => (H5.out.lt k hk).1))
  have H6 : Hid (w6.ownsRow w.heap.size 5 1 v6 6 (cells8 [c0, c1, c2, c3, c4, c5])) := Lib.hid hown
  clear hown hg HB5 H5 HR5
  go_wp2_with fail
  rw [rounds_succ]
  have HR6 := Lib.hid (row_new w6 [c6] 1 w6.heap.size (0, 0) rfl rfl (by intro x hx; simp at hx; omega) (by omega))
  go_wp2_with (at_builtin; refine wpList_append_row rfl (.tmp 13) (.tmp 18) rfl w.heap.size _ 6 [c0, c1, c2, c3, c4, c5] rfl (H6.out.alloc _) (some ⟨w6.heap.size, 0, none⟩) 1 1 [c6] rfl HR6.out (by omega) (by have := HB6.out.size; simp <;> omega) ?_)
  intro v7 w7 hown hg
  have HB7 : Hid (Below w.heap.size w w7) := Lib.hid ((HB6.out.alloc HB6.out.size _).grown hg (by have := HB6.out.size; simp <;> omega) (fun k hk => (H6.out.lt k hk).1))
  have H7 : Hid (w7.ownsRow w.heap.size 5 1 v7 7 (cells8 [c0, c1, c2, c3, c4, c5, c6])) := Lib.hid hown
  clear hown hg HB6 H6 HR6
  go_wp2_with fail
  rw [rounds_succ]
  have HR7 := Lib.hid (row_new w7 [c7] 1 w7.heap.size (0, 0) rfl rfl (by intro x hx; simp at hx; omega) (by omega))
  go_wp2_with (at_builtin; refine wpList_append_row rfl (.tmp 13) (.tmp 18) rfl w.heap.size _ 7 [c0, c1, c2, c3, c4, c5, c6] rfl (H7.out.alloc _) (some ⟨w7.heap.size, 0, none⟩) 1 1 [c7] rfl HR7.out (by omega) (by have := HB7.out.size; simp <;> omega) ?_)
  intro v8 w8 hown hg
  have HB8 : Hid (Below w.heap.size w w8) := Lib.hid ((HB7.out.alloc HB7.out.size _).grown hg (by have := HB7.out.size; simp <;> omega) (fun k hk => (H7.out.lt k hk).1))
  have H8 : Hid (w8.ownsRow w.heap.size 5 1 v8 8 (cells8 [c0, c1, c2, c3, c4, c5, c6, c7])) := Lib.hid hown
  clear hown hg HB7 H7 HR7
  go_wp2_with fail
  rw [rounds_succ]
  go_wp2_with fail
  go_ret
  exact new8_of (w0 := w) (l := riseB i) rfl (by rw [← HE.out]; exact H8.out) HB8.out (Nat.le_refl _) (by rw [← HE.out]; intro x hx; simp at hx; omega)
end Go.Proofs.YtjjfmmimmfihgabGreatDoor
