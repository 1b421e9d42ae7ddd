/-
  WHAT IS PROVED: the signs that stand between two: their map; the next one. the next sign that is so tight, if there is one. operands that signs of one kind join, from the left. rows of things of whatever kind, each of so many cells: laid by a literal, grown by appends, read as a list.
-/
import Derived.Test.YtenmnpbjnbdeaaaGreatDoorMj
import Derived.Maps.AppendAt
namespace Go.Proofs.YtenmnpbjnbdeaaaGreatDoor
section
open Go.RowKit Go.Shelf
set_option linter.unusedVariables false

theorem zeroOp (w : World) : (zeroValue 141).run Tryz.prog w = .ok (.agg #[.int .u8 0, .int .i64 0]) w := by kernel_rfl
set_option maxRecDepth 100000 in
set_option maxHeartbeats 4000000 in
theorem operators_tr (w : World) : Calls Tryz.prog 53 #[] w fun e w' => e = .returned (.map (some w.heap.size)) ∧ MapsTo w' w.heap.size opsL ∧ Below w.heap.size w w' := by
  have hmm := @run_makeMap Tryz.prog
  obtain ⟨M, hM⟩ : ∃ M, w.heap.size = M := ⟨_, rfl⟩
  obtain ⟨w0, hw0⟩ : ∃ w0, w.alloc (.map #[] 0) = w0 := ⟨_, rfl⟩
  have H0 : Hid (MapsTo w0 M (opsL.take 0)) := Lib.hid (by rw [← hM, ← hw0]; exact MapsTo.made w)
  have HB0 : Hid (Below M w w0) := Lib.hid (by rw [← hM, ← hw0]; exact below_alloc _ _)
  obtain ⟨w1, r1, hm, ht, hz⟩ := run_store H0.out Tryz.underlying104 Tryz.underlying9 ⟨#[111, 114]⟩ (.agg #[.int .u8 18, .int .i64 1]) (by kernel_rfl)
  have H1 : Hid (MapsTo w1 M (opsL.take 1)) := Lib.hid hm
  have HB1 : Hid (Below M w w1) := Lib.hid ⟨ht.os.trans HB0.out.os, ht.tape.trans HB0.out.tape, ht.output.trans HB0.out.output, Nat.le_trans HB0.out.size ht.size, fun k hk => (ht.block k (Nat.lt_of_lt_of_le (by omega) HB0.out.size) (by omega)).trans (HB0.out.block k hk)⟩
  clear hm ht hz H0 HB0
  obtain ⟨w2, r2, hm, ht, hz⟩ := run_store H1.out Tryz.underlying104 Tryz.underlying9 ⟨#[97, 110, 100]⟩ (.agg #[.int .u8 17, .int .i64 2]) (by kernel_rfl)
  have H2 : Hid (MapsTo w2 M (opsL.take 2)) := Lib.hid hm
  have HB2 : Hid (Below M w w2) := Lib.hid ⟨ht.os.trans HB1.out.os, ht.tape.trans HB1.out.tape, ht.output.trans HB1.out.output, Nat.le_trans HB1.out.size ht.size, fun k hk => (ht.block k (Nat.lt_of_lt_of_le (by omega) HB1.out.size) (by omega)).trans (HB1.out.block k hk)⟩
  clear hm ht hz H1 HB1
  obtain ⟨w3, r3, hm, ht, hz⟩ := run_store H2.out Tryz.underlying104 Tryz.underlying9 ⟨#[61]⟩ (.agg #[.int .u8 11, .int .i64 3]) (by kernel_rfl)
  have H3 : Hid (MapsTo w3 M (opsL.take 3)) := Lib.hid hm
  have HB3 : Hid (Below M w w3) := Lib.hid ⟨ht.os.trans HB2.out.os, ht.tape.trans HB2.out.tape, ht.output.trans HB2.out.output, Nat.le_trans HB2.out.size ht.size, fun k hk => (ht.block k (Nat.lt_of_lt_of_le (by omega) HB2.out.size) (by omega)).trans (HB2.out.block k hk)⟩
  clear hm ht hz H2 HB2
  obtain ⟨w4, r4, hm, ht, hz⟩ := run_store H3.out Tryz.underlying104 Tryz.underlying9 ⟨#[60, 62]⟩ (.agg #[.int .u8 12, .int .i64 3]) (by kernel_rfl)
  have H4 : Hid (MapsTo w4 M (opsL.take 4)) := Lib.hid hm
  have HB4 : Hid (Below M w w4) := Lib.hid ⟨ht.os.trans HB3.out.os, ht.tape.trans HB3.out.tape, ht.output.trans HB3.out.output, Nat.le_trans HB3.out.size ht.size, fun k hk => (ht.block k (Nat.lt_of_lt_of_le (by omega) HB3.out.size) (by omega)).trans (HB3.out.block k hk)⟩
  clear hm ht hz H3 HB3
  obtain ⟨w5, r5, hm, ht, hz⟩ := run_store H4.out Tryz.underlying104 Tryz.underlying9 ⟨#[60]⟩ (.agg #[.int .u8 13, .int .i64 3]) (by kernel_rfl)
  have H5 : Hid (MapsTo w5 M (opsL.take 5)) := Lib.hid hm
  have HB5 : Hid (Below M w w5) := Lib.hid ⟨ht.os.trans HB4.out.os, ht.tape.trans HB4.out.tape, ht.output.trans HB4.out.output, Nat.le_trans HB4.out.size ht.size, fun k hk => (ht.block k (Nat.lt_of_lt_of_le (by omega) HB4.out.size) (by omega)).trans (HB4.out.block k hk)⟩
  clear hm ht hz H4 HB4
  obtain ⟨w6, r6, hm, ht, hz⟩ := run_store H5.out Tryz.underlying104 Tryz.underlying9 ⟨#[60, 61]⟩ (.agg #[.int .u8 14, .int .i64 3]) (by kernel_rfl)
  have H6 : Hid (MapsTo w6 M (opsL.take 6)) := Lib.hid hm
  have HB6 : Hid (Below M w w6) := Lib.hid ⟨ht.os.trans HB5.out.os, ht.tape.trans HB5.out.tape, ht.output.trans HB5.out.output, Nat.le_trans HB5.out.size ht.size, fun k hk => (ht.block k (Nat.lt_of_lt_of_le (by omega) HB5.out.size) (by omega)).trans (HB5.out.block k hk)⟩
  clear hm ht hz H5 HB5
  obtain ⟨w7, r7, hm, ht, hz⟩ := run_store H6.out Tryz.underlying104 Tryz.underlying9 ⟨#[62]⟩ (.agg #[.int .u8 15, .int .i64 3]) (by kernel_rfl)
  have H7 : Hid (MapsTo w7 M (opsL.take 7)) := Lib.hid hm
  have HB7 : Hid (Below M w w7) := Lib.hid ⟨ht.os.trans HB6.out.os, ht.tape.trans HB6.out.tape, ht.output.trans HB6.out.output, Nat.le_trans HB6.out.size ht.size, fun k hk => (ht.block k (Nat.lt_of_lt_of_le (by omega) HB6.out.size) (by omega)).trans (HB6.out.block k hk)⟩
  clear hm ht hz H6 HB6
  obtain ⟨w8, r8, hm, ht, hz⟩ := run_store H7.out Tryz.underlying104 Tryz.underlying9 ⟨#[62, 61]⟩ (.agg #[.int .u8 16, .int .i64 3]) (by kernel_rfl)
  have H8 : Hid (MapsTo w8 M (opsL.take 8)) := Lib.hid hm
  have HB8 : Hid (Below M w w8) := Lib.hid ⟨ht.os.trans HB7.out.os, ht.tape.trans HB7.out.tape, ht.output.trans HB7.out.output, Nat.le_trans HB7.out.size ht.size, fun k hk => (ht.block k (Nat.lt_of_lt_of_le (by omega) HB7.out.size) (by omega)).trans (HB7.out.block k hk)⟩
  clear hm ht hz H7 HB7
  obtain ⟨w9, r9, hm, ht, hz⟩ := run_store H8.out Tryz.underlying104 Tryz.underlying9 ⟨#[43]⟩ (.agg #[.int .u8 5, .int .i64 4]) (by kernel_rfl)
  have H9 : Hid (MapsTo w9 M (opsL.take 9)) := Lib.hid hm
  have HB9 : Hid (Below M w w9) := Lib.hid ⟨ht.os.trans HB8.out.os, ht.tape.trans HB8.out.tape, ht.output.trans HB8.out.output, Nat.le_trans HB8.out.size ht.size, fun k hk => (ht.block k (Nat.lt_of_lt_of_le (by omega) HB8.out.size) (by omega)).trans (HB8.out.block k hk)⟩
  clear hm ht hz H8 HB8
  obtain ⟨w10, r10, hm, ht, hz⟩ := run_store H9.out Tryz.underlying104 Tryz.underlying9 ⟨#[45]⟩ (.agg #[.int .u8 6, .int .i64 4]) (by kernel_rfl)
  have H10 : Hid (MapsTo w10 M (opsL.take 10)) := Lib.hid hm
  have HB10 : Hid (Below M w w10) := Lib.hid ⟨ht.os.trans HB9.out.os, ht.tape.trans HB9.out.tape, ht.output.trans HB9.out.output, Nat.le_trans HB9.out.size ht.size, fun k hk => (ht.block k (Nat.lt_of_lt_of_le (by omega) HB9.out.size) (by omega)).trans (HB9.out.block k hk)⟩
  clear hm ht hz H9 HB9
  obtain ⟨w11, r11, hm, ht, hz⟩ := run_store H10.out Tryz.underlying104 Tryz.underlying9 ⟨#[124, 124]⟩ (.agg #[.int .u8 10, .int .i64 4]) (by kernel_rfl)
  have H11 : Hid (MapsTo w11 M (opsL.take 11)) := Lib.hid hm
  have HB11 : Hid (Below M w w11) := Lib.hid ⟨ht.os.trans HB10.out.os, ht.tape.trans HB10.out.tape, ht.output.trans HB10.out.output, Nat.le_trans HB10.out.size ht.size, fun k hk => (ht.block k (Nat.lt_of_lt_of_le (by omega) HB10.out.size) (by omega)).trans (HB10.out.block k hk)⟩
  clear hm ht hz H10 HB10
  obtain ⟨w12, r12, hm, ht, hz⟩ := run_store H11.out Tryz.underlying104 Tryz.underlying9 ⟨#[42]⟩ (.agg #[.int .u8 7, .int .i64 5]) (by kernel_rfl)
  have H12 : Hid (MapsTo w12 M (opsL.take 12)) := Lib.hid hm
  have HB12 : Hid (Below M w w12) := Lib.hid ⟨ht.os.trans HB11.out.os, ht.tape.trans HB11.out.tape, ht.output.trans HB11.out.output, Nat.le_trans HB11.out.size ht.size, fun k hk => (ht.block k (Nat.lt_of_lt_of_le (by omega) HB11.out.size) (by omega)).trans (HB11.out.block k hk)⟩
  clear hm ht hz H11 HB11
  obtain ⟨w13, r13, hm, ht, hz⟩ := run_store H12.out Tryz.underlying104 Tryz.underlying9 ⟨#[47]⟩ (.agg #[.int .u8 8, .int .i64 5]) (by kernel_rfl)
  have H13 : Hid (MapsTo w13 M (opsL.take 13)) := Lib.hid hm
  have HB13 : Hid (Below M w w13) := Lib.hid ⟨ht.os.trans HB12.out.os, ht.tape.trans HB12.out.tape, ht.output.trans HB12.out.output, Nat.le_trans HB12.out.size ht.size, fun k hk => (ht.block k (Nat.lt_of_lt_of_le (by omega) HB12.out.size) (by omega)).trans (HB12.out.block k hk)⟩
  clear hm ht hz H12 HB12
  obtain ⟨w14, r14, hm, ht, hz⟩ := run_store H13.out Tryz.underlying104 Tryz.underlying9 ⟨#[37]⟩ (.agg #[.int .u8 9, .int .i64 5]) (by kernel_rfl)
  have H14 : Hid (MapsTo w14 M (opsL.take 14)) := Lib.hid hm
  have HB14 : Hid (Below M w w14) := Lib.hid ⟨ht.os.trans HB13.out.os, ht.tape.trans HB13.out.tape, ht.output.trans HB13.out.output, Nat.le_trans HB13.out.size ht.size, fun k hk => (ht.block k (Nat.lt_of_lt_of_le (by omega) HB13.out.size) (by omega)).trans (HB13.out.block k hk)⟩
  clear hm ht hz H13 HB13
  go_enter Tryz.func53, Tryz.ntmps53
  go_wp2
  go_ret
  exact ⟨by rw [hM]; rfl, by rw [hM]; exact H14.out, by rw [hM]; exact HB14.out⟩
end
section
open Go.RowKit Go.Shelf
set_option linter.unusedVariables false

/-- what the map tells at a text is its number, and how tight it is -/
theorem find_op (s : List UInt8) : (findS (strU s) opsL).getD (.agg #[.int .u8 0, .int .i64 0]) = .agg #[.int .u8 ((opOf s).1 : Int), .int .i64 ((opOf s).2 : Int)] := by
  unfold opsL opOf
  simp only [findS, strU_eq]
  by_cases h0 : s = wOr
  · simp only [if_pos h0]; rfl
  simp only [if_neg h0]
  by_cases h1 : s = wAnd
  · simp only [if_pos h1]; rfl
  simp only [if_neg h1]
  by_cases h2 : s = [61]
  · simp only [if_pos h2]; rfl
  simp only [if_neg h2]
  by_cases h3 : s = [60, 62]
  · simp only [if_pos h3]; rfl
  simp only [if_neg h3]
  by_cases h4 : s = [60]
  · simp only [if_pos h4]; rfl
  simp only [if_neg h4]
  by_cases h5 : s = [60, 61]
  · simp only [if_pos h5]; rfl
  simp only [if_neg h5]
  by_cases h6 : s = [62]
  · simp only [if_pos h6]; rfl
  simp only [if_neg h6]
  by_cases h7 : s = [62, 61]
  · simp only [if_pos h7]; rfl
  simp only [if_neg h7]
  by_cases h8 : s = [43]
  · simp only [if_pos h8]; rfl
  simp only [if_neg h8]
  by_cases h9 : s = wMinus
  · simp only [if_pos h9]; rfl
  simp only [if_neg h9]
  by_cases h10 : s = [124, 124]
  · simp only [if_pos h10]; rfl
  simp only [if_neg h10]
  by_cases h11 : s = wStar
  · simp only [if_pos h11]; rfl
  simp only [if_neg h11]
  by_cases h12 : s = [47]
  · simp only [if_pos h12]; rfl
  simp only [if_neg h12]
  by_cases h13 : s = [37]
  · simp only [if_pos h13]; rfl
  simp only [if_neg h13]
  rfl
theorem Turn.drew (S : Nat → Prop) (w : World) : Turn S w w.drew := ⟨rfl, rfl, rfl, Nat.le_refl _, fun _ _ _ => rfl⟩
theorem below_drew' (w : World) : Below w.heap.size w w.drew := ⟨rfl, rfl, rfl, Nat.le_refl _, fun _ _ => rfl⟩
theorem opP_yes {t : St} {lv : Nat} (h1 : t.next.kind ≠ 3) (h2 : (opOf t.next.s).2 = lv) : opP lv t = ((opOf t.next.s).1, t.step) := by unfold opP; rw [if_neg (by intro h; rcases h with h | h <;> contradiction)]
theorem opP_skip {t : St} {lv : Nat} (h : t.next.kind = 3 ∨ (opOf t.next.s).2 ≠ lv) : opP lv t = (0, t) := by unfold opP; rw [if_pos h]
set_option maxRecDepth 100000 in
set_option maxHeartbeats 4000000 in
theorem operator_tr (N B : Nat) (lv : Nat) (t : St) (w : World) (h : RdAt N w B t) (hl : 1 ≤ lv) :
    Calls Tryz.prog 117 #[.pointer (some ⟨B, 0, none⟩), .int .i64 (lv : Int)] w fun e w' => e = .returned (.int .u8 ((opP lv t).1 : Int)) ∧ RdAt N w' B (opP lv t).2 ∧ Turn (· = B) w w' := by
  have HR := Lib.hid h
  have hN := next_any N B t w h
  unfold wordV at hN
  obtain ⟨k, hkk⟩ : ∃ k, t.next.kind = k := ⟨_, rfl⟩
  obtain ⟨s, hs⟩ : ∃ s, t.next.s = s := ⟨_, rfl⟩
  obtain ⟨i, hi⟩ : ∃ i, t.next.i = i := ⟨_, rfl⟩
  obtain ⟨p, hp⟩ : ∃ p, t.next.pos = p := ⟨_, rfl⟩
  have hF := find_op s
  obtain ⟨o, ho⟩ : ∃ o, (opOf s).1 = o := ⟨_, rfl⟩
  obtain ⟨v, hv⟩ : ∃ v, (opOf s).2 = v := ⟨_, rfl⟩
  rw [ho, hv] at hF
  rw [hkk, hs, hi, hp] at hN
  have HK := Lib.hid hkk
  have HS := Lib.hid hs
  have HO := Lib.hid ho
  have HV := Lib.hid hv
  obtain ⟨z, hz⟩ : ∃ z, strU s = z := ⟨_, rfl⟩
  rw [hz] at hN hF
  have HZ := Lib.hid hz
  clear hkk hs hi hp ho hv hz h
  go_enter Tryz.func117, Tryz.ntmps117
  go_wp2_with fail
  refine hN.mono ?_
  rintro e w1 ⟨rfl, hb1⟩
  obtain ⟨vx, M, hrx⟩ := HR.out.kept hb1
  have c2 : w1.cell? ⟨B, 2, none⟩ = some (.map (some M)) := bk_cell hrx.at_ 2
  have HX := Lib.hid hrx
  have HB1 := Lib.hid hb1
  clear hrx hb1
  obtain ⟨w2, hw2⟩ : ∃ w2, w2 = w1.alloc (.cells #[.int .u8 (k : Int), .string z, .int .i64 (i : Int), .int .i64 (p : Int)] 90) := ⟨_, rfl⟩
  have HX2 : Hid (Rd0 N w2 B vx M t) := Lib.hid (by rw [hw2]; exact HX.out.kept (below_alloc _ _))
  have hlook : ∀ x, Below w2.heap.size w2 x → (Instr.lookup 104 (.map (some M)) (.string z) false).run Tryz.prog x = .ok (.agg #[.int .u8 (o : Int), .int .i64 (v : Int)]) x := fun x hx => by
    have := run_look (HX2.out.ops.kept (hx.block _ HX2.out.ops.lt)) Tryz.underlying104 Tryz.underlying9 (zeroOp x) z
    rw [hF] at this; exact this
  have L1 := hlook (w2.alloc (.cells #[.int .u8 0, .int .i64 0] 141)).drew ((below_alloc w2 _).drew)
  have d2 : w2.cell? ⟨B, 2, none⟩ = some (.map (some M)) := bk_cell HX2.out.at_ 2
  have d3 : (w2.alloc (.cells #[.int .u8 0, .int .i64 0] 141)).cell? ⟨B, 2, none⟩ = some (.map (some M)) := bk_cell (HX2.out.kept (below_alloc _ _)).at_ 2
  have L2 := hlook w2.drew (below_drew' _)
  have L3 := hlook (w2.drew.alloc (.cells #[.int .u8 0, .int .i64 0] 141)) ((below_drew' w2).trans (below_alloc w2.drew _))
  rw [hw2] at L1 L2 L3 d2 d3
  clear hlook
  have WA : Hid (Below w.heap.size w ((w1.alloc (.cells #[.int .u8 (k : Int), .string z, .int .i64 (i : Int), .int .i64 (p : Int)] 90)).alloc (.cells #[.int .u8 (o : Int), .int .i64 (v : Int)] 141)).drew ∧ (((w1.alloc (.cells #[.int .u8 (k : Int), .string z, .int .i64 (i : Int), .int .i64 (p : Int)] 90)).alloc (.cells #[.int .u8 (o : Int), .int .i64 (v : Int)] 141)).drew).heap[w1.heap.size]? = some (.cells #[.int .u8 (k : Int), .string z, .int .i64 (i : Int), .int .i64 (p : Int)] 90) ∧ (((w1.alloc (.cells #[.int .u8 (k : Int), .string z, .int .i64 (i : Int), .int .i64 (p : Int)] 90)).alloc (.cells #[.int .u8 (o : Int), .int .i64 (v : Int)] 141)).drew).heap[w1.heap.size + 1]? = some (.cells #[.int .u8 (o : Int), .int .i64 (v : Int)] 141)) :=
    Lib.hid ⟨(HB1.out.trans ((below_two _ _ _).mono HB1.out.size)).drew, (heap_alloc_old _ _ (by simp)).trans (alloc_at rfl), alloc_at (by simp)⟩
  have WB : Hid (Below w.heap.size w ((w1.alloc (.cells #[.int .u8 (k : Int), .string z, .int .i64 (i : Int), .int .i64 (p : Int)] 90)).drew.alloc (.cells #[.int .u8 (o : Int), .int .i64 (v : Int)] 141)) ∧ ((w1.alloc (.cells #[.int .u8 (k : Int), .string z, .int .i64 (i : Int), .int .i64 (p : Int)] 90)).drew.alloc (.cells #[.int .u8 (o : Int), .int .i64 (v : Int)] 141)).heap[w1.heap.size]? = some (.cells #[.int .u8 (k : Int), .string z, .int .i64 (i : Int), .int .i64 (p : Int)] 90) ∧ ((w1.alloc (.cells #[.int .u8 (k : Int), .string z, .int .i64 (i : Int), .int .i64 (p : Int)] 90)).drew.alloc (.cells #[.int .u8 (o : Int), .int .i64 (v : Int)] 141)).heap[w1.heap.size + 1]? = some (.cells #[.int .u8 (o : Int), .int .i64 (v : Int)] 141)) :=
    Lib.hid ⟨(HB1.out.trans ((below_alloc _ _).mono HB1.out.size)).drew.alloc (by have := HB1.out.size; simp; omega) _, (heap_alloc_old (w1.alloc (.cells #[.int .u8 (k : Int), .string z, .int .i64 (i : Int), .int .i64 (p : Int)] 90)).drew _ (by simp)).trans (alloc_at rfl), alloc_at (by simp)⟩
  go_wp2_with fail
  go_region
  all_goals
    first
      | (obtain ⟨w3, hw3⟩ : ∃ w3, ((w1.alloc (.cells #[.int .u8 (k : Int), .string z, .int .i64 (i : Int), .int .i64 (p : Int)] 90)).alloc (.cells #[.int .u8 (o : Int), .int .i64 (v : Int)] 141)).drew = w3 := ⟨_, rfl⟩; rw [hw3] at WA ⊢; have W3 := WA)
      | (obtain ⟨w3, hw3⟩ : ∃ w3, (w1.alloc (.cells #[.int .u8 (k : Int), .string z, .int .i64 (i : Int), .int .i64 (p : Int)] 90)).drew.alloc (.cells #[.int .u8 (o : Int), .int .i64 (v : Int)] 141) = w3 := ⟨_, rfl⟩; rw [hw3] at WB ⊢; have W3 := WB)
    clear hw3 WA WB L1 L2 L3 d2 d3 hw2 HX2 c2
    obtain ⟨hb3, hq1, hq2⟩ := W3.out
    have q0 : w3.cell? ⟨w1.heap.size, 0, none⟩ = some (.int .u8 (k : Int)) := bk_cell hq1 0
    have q1 : w3.cell? ⟨w1.heap.size, 1, none⟩ = some (.string z) := bk_cell hq1 1
    have r0 : w3.cell? ⟨w1.heap.size + 1, 0, none⟩ = some (.int .u8 (o : Int)) := bk_cell hq2 0
    have r1 : w3.cell? ⟨w1.heap.size + 1, 1, none⟩ = some (.int .i64 (v : Int)) := bk_cell hq2 1
    clear hb3 hq1 hq2
    by_cases hk : k = 3
    · have HE := Lib.hid (opP_skip (lv := lv) (t := t) (.inl (HK.out.trans hk)))
      have hk3 : ((k : Int) == 3) = true := by rw [beq_iff_eq]; omega
      have H := Lib.hid (And.intro (HR.out.kept W3.out.1) (Turn.of_below (S := (· = B)) W3.out.1))
      clear hk
      go_wp2_with fail
      go_ret
      exact ⟨by rw [HE.out]; rfl, by rw [HE.out]; exact H.out.1, H.out.2⟩
    · have hk3 : ((k : Int) == 3) = false := by rw [beq_eq_false_iff_ne]; omega
      by_cases hv : v = lv
      · have hyes : t.has z.data.toList = true := by
          unfold St.has
          rw [HK.out, HS.out, ← HZ.out, strU_data]
          simp [hk]
        have hne : z.data.toList ≠ [] := by
          rw [← HZ.out, strU_data]
          intro e
          have h1 := HV.out
          rw [e, opOf_nil] at h1
          dsimp only at h1
          omega
        have HE := Lib.hid (opP_yes (lv := lv) (t := t) (by rw [HK.out]; exact hk) (by rw [HS.out, HV.out]; exact hv))
        have HH := Lib.hid (And.intro hyes hne)
        clear hyes hne
        have hl3 : ((v : Int) == (lv : Int)) = true := by rw [beq_iff_eq]; omega
        have hl4 : (v : Int) = (lv : Int) := by omega
        clear hk hv
        go_wp2_with fail
        refine (take_yes N B t z _ (HR.out.kept W3.out.1) HH.out.1 HH.out.2).mono ?_
        rintro e w4 ⟨rfl, hr, ht⟩
        have s0 : w4.cell? ⟨w1.heap.size + 1, 0, none⟩ = some (.int .u8 (o : Int)) := ht.cell r0 (fun e => by have := HB1.out.size; have := HR.out.lt; change w1.heap.size + 1 = B at e; omega)
        have H := Lib.hid (And.intro hr ((Turn.of_below W3.out.1).trans ht))
        clear hr ht q0 q1 r0 r1
        go_wp2_with fail
        go_ret
        exact ⟨by rw [HE.out, HS.out, HO.out]; rfl, by rw [HE.out]; exact H.out.1, H.out.2⟩
      · have HE := Lib.hid (opP_skip (lv := lv) (t := t) (.inr (by rw [HS.out, HV.out]; exact hv)))
        have hl3 : ((v : Int) == (lv : Int)) = false := by rw [beq_eq_false_iff_ne]; omega
        have H := Lib.hid (And.intro (HR.out.kept W3.out.1) (Turn.of_below (S := (· = B)) W3.out.1))
        have hl4 : ¬ (v : Int) = (lv : Int) := by omega
        clear hk hv
        go_wp2_with fail
        go_ret
        exact ⟨by rw [HE.out]; rfl, by rw [HE.out]; exact H.out.1, H.out.2⟩
end
section
open Go.RowKit Go.Shelf
set_option linter.unusedVariables false

/-- how many words a reader has left -/
def restLen (w : World) (B : Nat) : Nat := match w.cell? ⟨B, 0, none⟩ with
  | some (.slice _ n _) => n
  | _ => 0
theorem RdAt.restLen {N B : Nat} {w : World} {t : St} (h : RdAt N w B t) : restLen w B = t.rest.length := by
  obtain ⟨v, M, h⟩ := h
  obtain ⟨ao, cap, rfl, _⟩ := h.row
  have c0 : w.cell? ⟨B, 0, none⟩ = some (.slice ao t.rest.length cap) := bk_cell h.at_ 0
  unfold Go.Proofs.YtenmnpbjnbdeaaaGreatDoor.restLen
  rw [c0]
def opMs (v : Value) (n : Nat) : Nat := match v with
  | .int _ z => if z = 0 then 0 else n + 1
  | _ => 0
theorem opMs_less (lv : Nat) (t : St) (o : Nat) (h0 : ¬ o = 0) (n4 nr : Nat) (h4 : n4 = (opP lv t).2.rest.length) (hle : t.rest.length ≤ nr) : opMs (.int .u8 ((opP lv t).1 : Int)) n4 < opMs (.int .u8 (o : Int)) nr := by
  unfold opMs
  dsimp only
  rw [if_neg (show ¬ (o : Int) = 0 by omega)]
  split
  · omega
  · rename_i h
    have := (opP_lt (lv := lv) (t := t) (fun e => h (by rw [e]; rfl))).1
    omega
theorem chainL_end (lv : Nat) (f : St → Ex × St) (k : Nat) (x : Ex) (t : St) (h : (opP lv t).1 = 0) : chainL lv f k x t = (x, t) := by
  cases k with
  | zero => rfl
  | succ k => unfold chainL; rw [if_pos h]
theorem chainL_more (lv : Nat) (f : St → Ex × St) (k : Nat) (x : Ex) (t : St) (hk : t.rest.length ≤ k) (h : (opP lv t).1 ≠ 0) : ∃ j, k = j + 1 ∧ chainL lv f k x t = chainL lv f j (twoE (opP lv t).1 x (f (opP lv t).2).1) (f (opP lv t).2).2 := by
  cases k with
  | zero => have := (opP_lt h).1; omega
  | succ k => exact ⟨k, rfl, by conv => lhs; unfold chainL; rw [if_neg h]⟩
/-- WHAT READS AN EXPRESSION, of so many words at most -/
def ReadsX (N B n : Nat) (fn : FuncId) (f : St → Ex × St) : Prop :=
  ∀ (t : St) (w : World), RdAt N w B t → t.rest.length ≤ n → Calls Tryz.prog fn #[.pointer (some ⟨B, 0, none⟩)] w (GivesX N B (f t) w)

set_option maxRecDepth 100000 in
set_option maxHeartbeats 4000000 in
theorem chain_tr (N B n lv fn : Nat) (f : St → Ex × St) (hcf : ∀ (args : Array Value) (w : World), (callFunc fn args).run Tryz.prog w = .ok (.enter fn args) w) (hf : ReadsX N B n fn f) (hle : Le f) (hl : 1 ≤ lv) (t : St) (w : World) (h : RdAt N w B t) (ht : t.rest.length ≤ n) :
    Calls Tryz.prog 71 #[.pointer (some ⟨B, 0, none⟩), .int .i64 (lv : Int), .func (.func fn) #[.pointer (some ⟨B, 0, none⟩)] #[]] w (GivesX N B (chainP lv f t) w) := by
  have F0 := Lib.hid (Fr.start h)
  obtain ⟨w0, hw0⟩ : ∃ w0, w0 = w.alloc (.cells zeroE 36) := ⟨_, rfl⟩
  obtain ⟨R, hR⟩ : ∃ R, R = w.heap.size := ⟨_, rfl⟩
  rw [← hw0, ← hR] at F0
  have hC0 := hf t w0 F0.out.rd ht
  have HL := Lib.hid (hle t)
  obtain ⟨r, hr⟩ : ∃ r, chainP lv f t = r := ⟨_, rfl⟩
  have HRES := Lib.hid hr
  rw [hr]
  clear h hr
  go_enter Tryz.func71, Tryz.ntmps71
  go_wp2_with fail
  unfold zeroE at hw0
  rw [← hw0]
  refine hC0.mono ?_
  rintro e w1 ⟨u1, rfl, hs1, hr1, ht1⟩
  obtain ⟨x1, hx1⟩ : ∃ x, (f t).1 = x := ⟨_, rfl⟩
  obtain ⟨t1, ht1'⟩ : ∃ t', (f t).2 = t' := ⟨_, rfl⟩
  rw [hx1] at hs1
  rw [ht1'] at hr1
  have F1 := Lib.hid (F0.out.call hr1 ht1)
  have S1 := Lib.hid (F0.out.got hs1)
  obtain ⟨ao1, n1, c1, hu1⟩ := S1.out.slice
  subst hu1
  rw [hx1]
  have HRES1 : Hid (chainL lv f t1.rest.length x1 t1 = r) := Lib.hid (by show _ = _; rw [← HRES.out]; unfold chainP; rw [hx1, ht1'])
  have HL1 : Hid (t1.rest.length ≤ n) := Lib.hid (by show _ ≤ _; have := HL.out; rw [ht1'] at this; omega)
  obtain ⟨X, hX⟩ : ∃ X, X = w1.heap.size := ⟨_, rfl⟩
  obtain ⟨w2, hw2⟩ : ∃ w2, w2 = w1.alloc (.cells (exArr x1.a (.slice ao1 n1 c1)) 36) := ⟨_, rfl⟩
  have F2 : Hid (Fr N B R w w2 t1) := Lib.hid (by rw [hw2]; exact F1.out.new (below_alloc _ _))
  have X2 : Hid (ExB w2 X x1.a (.slice ao1 n1 c1)) := Lib.hid (by rw [hw2, hX]; exact heap_alloc_new _ _)
  have S2 : Hid (REs (fun k => R < k ∧ k ≠ X) w2 (.slice ao1 n1 c1) x1.l) := Lib.hid (by
    rw [hw2]
    exact (S1.out.mono fun k hk hlt => ⟨hk, by omega⟩).below (below_alloc _ _))
  have HXR : R < X := by rw [hX]; exact bk_lt F1.out.res
  have hO := operator_tr N B lv t1 w2 F2.out.rd hl
  clear hs1 hr1 ht1 hC0 hw0 F0 hx1 ht1' HL HRES F1 S1
  unfold exVal
  unfold exArr at hw2
  go_wp2_with (go_at_call 117; rw [← hw2]; refine hO.mono ?_; rintro e w3 ⟨rfl, hr, ht⟩; have F3 := Lib.hid (F2.out.call hr ht); have X3 := Lib.hid (X2.out.turn ht (fun e => by have := F2.out.hB; have := F2.out.hR; omega)); have S3 := Lib.hid (S2.out.turn ht (fun k hk => F2.out.notB hk.1)); clear hr ht)
  rw [← hR, ← hX]
  have HB := Lib.hid (And.intro F2.out.hB (And.intro F2.out.hR HXR))
  have HRR := Lib.hid hR
  clear hw2 hO F2 X2 S2 hX HXR hR
  go_loopw [8] (fun op wr => ∃ (k : Nat) (xc : Ex) (tc : St) (ac : Option Addr) (nc cc : Nat), op = .int .u8 ((opP lv tc).1 : Int) ∧ Hid (chainL lv f k xc tc = r) ∧ Hid (tc.rest.length ≤ k ∧ tc.rest.length ≤ n) ∧ Hid (Fr N B R w wr (opP lv tc).2) ∧ Hid (ExB wr X xc.a (.slice ac nc cc)) ∧ Hid (REs (fun k => R < k ∧ k ≠ X) wr (.slice ac nc cc) xc.l)) (fun op wr => opMs op (restLen wr B))
  case atStart => exact ⟨_, x1, t1, ao1, n1, c1, rfl, HRES1, Lib.hid ⟨Nat.le_refl _, HL1.out⟩, F3, X3, S3⟩
  case round =>
    obtain ⟨k, xc, tc, ac, nc, cc, rfl, HRES, HK, HF, HX, HS⟩ := hrel
    clear HRES1 HL1 F3 X3 S3
    obtain ⟨o, ho⟩ : ∃ o, (opP lv tc).1 = o := ⟨_, rfl⟩
    obtain ⟨t2, ht2⟩ : ∃ t', (opP lv tc).2 = t' := ⟨_, rfl⟩
    rw [ht2] at HF
    rw [ho]
    have HO := Lib.hid ho
    have HT2 := Lib.hid ht2
    clear ho ht2
    obtain ⟨d0, d1, d2, d3, d4, d5, d6, d7, d8⟩ := HX.out.cells
    by_cases h0 : o = 0
    · have hcond : (o : Int) = 0 := by omega
      have HEND := Lib.hid (chainL_end lv f k xc tc (HO.out.trans h0))
      subst h0
      go_wp2_with (refine wpList_store_ex rfl _ _ rfl R xc.a (.slice ac nc cc) rfl rfl rfl _ HF.out.res rfl ?_)
      refine bodyPost_ret (ex_results (R := R) (a := xc.a) (u := .slice ac nc cc) Tryz.results71 (ExB.set HF.out.res _ _) rfl) rfl ?_
      have e2 : t2 = tc := by rw [← HT2.out, opP_no HO.out (by omega)]
      rw [← HRES.out, HEND.out, ← e2]
      exact HF.out.done (HS.out.mono fun k h _ => h.1)
    · have hcond : ¬ (o : Int) = 0 := by omega
      have hcond2 : ((o : Int) == 0) = false := by rw [beq_eq_false_iff_ne]; omega
      obtain ⟨k2, hk2, hmore⟩ := chainL_more lv f k xc tc HK.out.1 (by rw [HO.out]; exact h0)
      have hlt := (opP_lt (lv := lv) (t := tc) (by rw [HO.out]; exact h0)).1
      rw [HO.out, HT2.out] at hmore
      rw [HT2.out] at hlt
      have HMORE := Lib.hid (hmore.symm.trans HRES.out)
      have HLT : Hid (t2.rest.length < tc.rest.length ∧ t2.rest.length ≤ n ∧ t2.rest.length ≤ k2) := Lib.hid ⟨hlt, by have := HK.out.2; omega, by have := HK.out.1; omega⟩
      obtain ⟨y, hy⟩ : ∃ y, (f t2).1 = y := ⟨_, rfl⟩
      obtain ⟨t3, ht3⟩ : ∃ t', (f t2).2 = t' := ⟨_, rfl⟩
      rw [hy, ht3] at HMORE
      have HLE : Hid (t3.rest.length ≤ t2.rest.length) := Lib.hid (by have := hle t2; rw [ht3] at this; exact this)
      have HF2 := hf t2 wr.drew (HF.out.rd.kept (below_drew' _)) HLT.out.2.1
      unfold GivesX at HF2
      rw [hy, ht3] at HF2
      have HHF := Lib.hid HF2
      have HRL := Lib.hid HF.out.rd.restLen
      clear hmore hlt hy ht3 HF2 hk2
      go_wp2_with fail
      go_region_with ((first
        | (refine HHF.out.mono ?_; rintro e v1 ⟨uy, rfl, hs, hr, ht⟩; obtain ⟨ay, ny, cy, huy⟩ := hs.slice; subst huy; have HSY : Hid (REs (fun k => R < k ∧ k ≠ X) v1 (.slice ay ny cy) y.l) := Lib.hid (hs.mono (fun k hk _ => ⟨HF.out.past hk, by have := HX.out.lt; have hk' : wr.heap.size ≤ k := hk; omega⟩)); have HF4 := Lib.hid (HF.out.call hr ((Turn.drew _ _).trans ht)); have HX4 := Lib.hid (HX.out.turn ((Turn.drew _ _).trans ht) (fun e => by have := HB.out; omega)); have HS4 := Lib.hid (HS.out.turn ((Turn.drew _ _).trans ht) (fun k hk => HF.out.notB hk.1)); clear hs hr ht; obtain ⟨g0, g1, g2, g3, g4, g5, g6, g7, g8⟩ := HX4.out.cells; unfold exVal)
        | (go_at_call 118; go_loud (refine (binary_tr o xc y (.slice ac nc cc) (.slice ay ny cy) (fun k => R < k ∧ k ≠ X) v1 HS4.out HSY.out (fun k hk => ⟨HF4.out.past hk, by have := HX4.out.lt; omega⟩)).mono ?_; rintro e v2 ⟨uz, rfl, hs, hb⟩; obtain ⟨az, nz, cz, huz⟩ := hs.slice; subst huz; have HSZ := Lib.hid hs; have HF5 := Lib.hid (HF4.out.new hb); have HX5 := Lib.hid (HX4.out.kept hb); clear hs hb; obtain ⟨k0, k1, k2', k3, k4, k5, k6, k7, k8⟩ := HX5.out.cells; obtain ⟨z0, z1, z2, z3, z4, z5, z6, z7, z8⟩ := HX5.out.free; clear d0 d1 d2 d3 d4 d5 d6 d7 d8 g0 g1 g2 g3 g4 g5 g6 g7 g8; unfold exVal))))
      all_goals
        rw [set9 HX5.out]
        obtain ⟨v3, hv3⟩ : ∃ v3, v3 = v2.setRow X (exArr (twoE o xc y).a (.slice az nz cz)) := ⟨_, rfl⟩
        have HF6 : Hid (Fr N B R w v3 t3) := Lib.hid (by rw [hv3]; exact HF5.out.setRow HB.out.2.2 _)
        have HX6 : Hid (ExB v3 X (twoE o xc y).a (.slice az nz cz)) := Lib.hid (by rw [hv3]; exact ExB.set HX5.out _ _)
        have HS6 : Hid (REs (fun k => R < k ∧ k ≠ X) v3 (.slice az nz cz) (twoE o xc y).l) := Lib.hid (by rw [hv3]; exact HSZ.out.turn (Turn.setRow (· = X) _ _ _ rfl) (fun k hk => hk.2))
        have hO := operator_tr N B lv t3 v3 HF6.out.rd hl
        unfold exArr at hv3
        clear k0 k1 k2' k3 k4 k5 k6 k7 k8 z0 z1 z2 z3 z4 z5 z6 z7 z8 HSY HF4 HX4 HS4 HX HF HS HSZ HF5 HX5 HHF
        rw [← hv3]
        clear hv3
        go_wp2_with (go_at_call 117; refine hO.mono ?_; rintro e v4 ⟨rfl, hr, ht⟩; have HF7 := Lib.hid (HF6.out.call hr ht); have HX7 := Lib.hid (HX6.out.turn ht (fun e => by have := HB.out; omega)); have HS7 := Lib.hid (HS6.out.turn ht (fun k hk => HF6.out.notB hk.1)); clear hr ht)
        go_roundw
        case rel => exact ⟨k2, twoE o xc y, t3, az, nz, cz, rfl, HMORE, Lib.hid ⟨by have := HLE.out; have := HLT.out; omega, by have := HLE.out; have := HLT.out; omega⟩, HF7, HX7, HS7⟩
        case measure => exact opMs_less lv t3 o h0 _ _ HF7.out.rd.restLen (by rw [HRL.out]; exact HLE.out)
end
section
open Go.RowKit Go.Shelf
set_option linter.unusedVariables false

/-- a kind of things that lie in cells -/
structure Elt (α : Type) where
  T : TypeId
  S : TypeId
  sz : Nat
  is : (Nat → Prop) → World → List Value → α → Prop
  len : ∀ {P w cs x}, is P w cs x → cs.length = sz
  one : ∀ {P w cs x}, is P w cs x → ∀ u ∈ cs, u.oneCell' = true
  kept : ∀ {P : Nat → Prop} {w w' : World} {cs x}, is P w cs x → w.heap.size ≤ w'.heap.size → (∀ k, P k → k < w.heap.size → w'.heap[k]? = w.heap[k]?) → is P w' cs x
  mono : ∀ {P Q : Nat → Prop} {w : World} {cs x}, is P w cs x → (∀ k, P k → k < w.heap.size → Q k) → is Q w cs x
def All2 {α β : Type} (R : α → β → Prop) : List α → List β → Prop
  | [], [] => True
  | a :: l, b :: m => R a b ∧ All2 R l m
  | _, _ => False
theorem All2.imp {α β : Type} {R S : α → β → Prop} (h : ∀ a b, R a b → S a b) : ∀ {l : List α} {m : List β}, All2 R l m → All2 S l m
  | [], [], _ => trivial
  | a :: l, b :: m, q => ⟨h a b q.1, All2.imp h q.2⟩
  | [], _ :: _, q => q.elim
  | _ :: _, [], q => q.elim
theorem All2.snoc {α β : Type} {R : α → β → Prop} {a : α} {b : β} (h : R a b) : ∀ {l : List α} {m : List β}, All2 R l m → All2 R (l ++ [a]) (m ++ [b])
  | [], [], _ => ⟨h, trivial⟩
  | _ :: _, _ :: _, q => ⟨q.1, All2.snoc h q.2⟩
  | [], _ :: _, q => q.elim
  | _ :: _, [], q => q.elim
theorem All2.flat {α : Type} {E : Elt α} {P : Nat → Prop} {w : World} : ∀ {css : List (List Value)} {l : List α}, All2 (E.is P w) css l → css.flatten.length = l.length * E.sz
  | [], [], _ => by simp
  | cs :: css, x :: l, q => by
    rw [List.flatten_cons, List.length_append, E.len q.1, All2.flat q.2, List.length_cons, Nat.add_mul]; omega
  | [], _ :: _, q => q.elim
  | _ :: _, [], q => q.elim
/-- the slice v reads as these -/
def RowOf {α : Type} (E : Elt α) (P : Nat → Prop) (w : World) (v : Value) (l : List α) : Prop :=
  (v = .slice none 0 0 ∧ l = []) ∨ ∃ g cap css, v = .slice (some ⟨g, 0, none⟩) l.length cap ∧ l.length ≤ cap ∧ cap ≤ 9223372036854775807 ∧ P g ∧ g < w.heap.size ∧ All2 (E.is P w) css l ∧ ∀ (j : Nat) (u : Value), css.flatten[j]? = some u → w.cell? ⟨g, j, none⟩ = some u
theorem RowOf.slice {α : Type} {E : Elt α} {P : Nat → Prop} {w : World} {v : Value} {l : List α} (h : RowOf E P w v l) : ∃ ao cap, v = .slice ao l.length cap ∧ l.length ≤ cap ∧ cap ≤ 9223372036854775807 := by
  rcases h with ⟨rfl, rfl⟩ | ⟨g, cap, css, rfl, h1, h2, _⟩
  · exact ⟨_, _, rfl, Nat.le_refl _, by omega⟩
  · exact ⟨_, _, rfl, h1, h2⟩
theorem RowOf.kept {α : Type} {E : Elt α} {P : Nat → Prop} {w w' : World} {v : Value} {l : List α} (h : RowOf E P w v l) (hs : w.heap.size ≤ w'.heap.size) (hk : ∀ k, P k → k < w.heap.size → w'.heap[k]? = w.heap[k]?) : RowOf E P w' v l := by
  rcases h with h | ⟨g, cap, css, e, h1, h2, h3, h4, h5, h6⟩
  · exact .inl h
  · exact .inr ⟨g, cap, css, e, h1, h2, h3, Nat.lt_of_lt_of_le h4 hs, h5.imp (fun a b q => E.kept q hs hk), fun j u hu => (World.cell?_of_block (hk g h3 h4)).trans (h6 j u hu)⟩
theorem RowOf.mono {α : Type} {E : Elt α} {P Q : Nat → Prop} {w : World} {v : Value} {l : List α} (h : RowOf E P w v l) (hk : ∀ k, P k → k < w.heap.size → Q k) : RowOf E Q w v l := by
  rcases h with h | ⟨g, cap, css, e, h1, h2, h3, h4, h5, h6⟩
  · exact .inl h
  · exact .inr ⟨g, cap, css, e, h1, h2, hk g h3 h4, h4, h5.imp (fun a b q => E.mono q hk), h6⟩
theorem RowOf.turn {α : Type} {E : Elt α} {P S : Nat → Prop} {w w' : World} {v : Value} {l : List α} (h : RowOf E P w v l) (ht : Turn S w w') (hn : ∀ k, P k → ¬ S k) : RowOf E P w' v l := h.kept ht.size (fun k hp hk => ht.block k hk (hn k hp))
theorem RowOf.below {α : Type} {E : Elt α} {P : Nat → Prop} {w w' : World} {v : Value} {l : List α} (h : RowOf E P w v l) (hb : Below w.heap.size w w') : RowOf E P w' v l := h.kept hb.size (fun k _ hk => hb.block k hk)
/-- a row under way: the call's own, it may be appended to -/
structure OwnL {α : Type} (E : Elt α) (base : Nat) (w : World) (v : Value) (css : List (List Value)) (l : List α) : Prop where
  own : w.ownsRow base E.T E.sz v l.length css.flatten
  all : All2 (E.is (fun k => base ≤ k ∧ v.ownBlock ≠ some k) w) css l
theorem OwnL.slice {α : Type} {E : Elt α} {base : Nat} {w : World} {v : Value} {css : List (List Value)} {l : List α} (h : OwnL E base w v css l) : ∃ ao cap, v = .slice ao l.length cap := by
  rcases h.own.2 with ⟨rfl, h0⟩ | ⟨g, cap, cur, rfl, _⟩
  · exact ⟨_, _, by rw [h0]⟩
  · exact ⟨_, _, rfl⟩
theorem OwnL.turn {α : Type} {E : Elt α} {base : Nat} {w w' : World} {v : Value} {css : List (List Value)} {l : List α} {S : Nat → Prop} (h : OwnL E base w v css l) (ht : Turn S w w') (hn : ∀ k, base ≤ k → ¬ S k) : OwnL E base w' v css l :=
  ⟨ht.own h.own (fun k hk => hn k (h.own.lt k hk).1), h.all.imp fun a b q => E.kept q ht.size (fun k hp hk => ht.block k hk (hn k hp.1))⟩
theorem OwnL.start {α : Type} {E : Elt α} {base : Nat} {w : World} {cs : List Value} {x : α} (h : E.is (base ≤ ·) w cs x) (hb : base ≤ w.heap.size) (hT : cs.toArray.size = E.sz) :
    OwnL E base (w.alloc (.cells cs.toArray E.T)) (.slice (some ⟨w.heap.size, 0, none⟩) 1 1) [cs] [x] := by
  refine ⟨⟨by simp [E.len h], .inr ⟨w.heap.size, 1, cs.toArray, rfl, hb, heap_alloc_new _ _, Nat.le_refl _, by unfold maxLen; omega, by omega, ?_⟩⟩, ?_, trivial⟩
  · have := E.len h
    simp [← this]
  · refine E.kept (E.mono h (fun k hk hlt => ⟨hk, fun e => ?_⟩)) (by simp) (fun k _ hk => heap_alloc_old w _ hk)
    injection e with e
    subst e
    exact Nat.lt_irrefl _ hlt
theorem OwnL.app {α : Type} {E : Elt α} (hu : Tryz.prog.underlying E.S = some (.slice E.T)) {z : Value} {bytes : Nat} (hinfo : (Tryz.prog.info? E.T).map (fun i => (i.zero, i.size, i.bytes)) = some (some z, E.sz, bytes)) (hzs : z.cells.size = E.sz) (hsz : 0 < E.sz)
    {base : Nat} {w : World} {v : Value} {css : List (List Value)} {l : List α} (h : OwnL E base w v css l) {cs : List Value} {x : α} (hx : E.is (fun k => base ≤ k ∧ v.ownBlock ≠ some k) w cs x) (hl : l.length ≤ 1000000) (hby : bytes ≤ 1000000) (hb : base ≤ w.heap.size) :
    ∃ v' w', (Builtin.append_ #[E.S, E.S] E.S #[v, .slice (some ⟨w.heap.size, 0, none⟩) 1 1]).run Tryz.prog (w.alloc (.cells cs.toArray E.T)) = .ok v' w' ∧ OwnL E base w' v' (css ++ [cs]) (l ++ [x]) ∧ Turn (fun k => v.ownBlock = some k) w w' := by
  obtain ⟨i0, hi, hz0, hz1, hz2⟩ := info_parts hinfo
  have hnew : (w.alloc (.cells cs.toArray E.T)).heap[w.heap.size]? = some (.cells cs.toArray E.T (0, 0)) := heap_alloc_new w _
  have h63 : l.length + 1 ≤ maxLen := by unfold maxLen; omega
  have hbb : (l.length + 1) * bytes ≤ 140737488355328 := Nat.le_trans (Nat.mul_le_mul (Nat.succ_le_succ hl) hby) (by decide)
  obtain ⟨v', w', h1, h2, h3, _, h5⟩ := run_append_own_at (P := Tryz.prog) (w.alloc (.cells cs.toArray E.T)) base E.S E.S E.T i0 z E.sz bytes hu hi hz0 hz1 hz2 hzs hsz v l.length css.flatten (h.own.alloc _) ⟨w.heap.size, 0, none⟩ 1 1 cs (by rw [E.len hx]; omega)
    (fun j u hj => by
      have : (⟨w.heap.size, 0, none⟩ : Addr).add j = ⟨w.heap.size, j, none⟩ := by unfold Addr.add; split <;> simp_all
      rw [this, bk_cell hnew j, List.getElem?_toArray]; exact hj) (E.one hx) h63 hbb (by simp; omega)
  have ht : Turn (fun k => v.ownBlock = some k) w w' := (Turn.alloc _ _ _).trans (Turn.grown h3)
  have key : ∀ cs y, E.is (fun k => base ≤ k ∧ v.ownBlock ≠ some k) w cs y → E.is (fun k => base ≤ k ∧ v'.ownBlock ≠ some k) w' cs y := fun cs y q => by
    refine E.mono (E.kept (E.mono q (fun k hk hlt => ⟨hk.1, hk.2, fun e => ?_⟩) (Q := fun k => base ≤ k ∧ v.ownBlock ≠ some k ∧ v'.ownBlock ≠ some k)) ht.size (fun k hk hlt => ht.block k hlt hk.2.1)) (fun k hk _ => ⟨hk.1, hk.2.2⟩)
    rcases h5 with h5 | h5
    · exact hk.2 (h5 ▸ e)
    · rw [h5] at e
      injection e with e
      simp at e
      omega
  refine ⟨v', w', h1, ⟨?_, (h.all.imp key).snoc (key cs x hx)⟩, ht⟩
  rw [List.flatten_append, List.length_append, List.flatten_singleton]; exact h2
/-- a whole list is appended -/
theorem OwnL.appL {α : Type} {E : Elt α} (hu : Tryz.prog.underlying E.S = some (.slice E.T)) {z : Value} {bytes : Nat} (hinfo : (Tryz.prog.info? E.T).map (fun i => (i.zero, i.size, i.bytes)) = some (some z, E.sz, bytes)) (hzs : z.cells.size = E.sz) (hsz : 0 < E.sz)
    {base : Nat} {w : World} {v : Value} {css : List (List Value)} {l : List α} (h : OwnL E base w v css l) {u : Value} {l2 : List α} (hx : RowOf E (fun k => base ≤ k ∧ v.ownBlock ≠ some k) w u l2) (hl : l.length + l2.length ≤ 1000000) (hby : bytes ≤ 1000000) (hb : base ≤ w.heap.size) :
    ∃ v' w' css2, (Builtin.append_ #[E.S, E.S] E.S #[v, u]).run Tryz.prog w = .ok v' w' ∧ OwnL E base w' v' (css ++ css2) (l ++ l2) ∧ Turn (fun k => v.ownBlock = some k) w w' := by
  obtain ⟨i0, hi, hz0, hz1, hz2⟩ := info_parts hinfo
  rcases hx with ⟨rfl, rfl⟩ | ⟨g, cap, css2, rfl, q1, q2, q3, q4, q5, q6⟩
  · refine ⟨v, w, [], run_append_owned_none (P := Tryz.prog) w base E.S E.S E.T i0 E.sz hu hi v _ _ h.own, ?_, Turn.refl _ _⟩
    rw [List.append_nil, List.append_nil]; exact h
  · have h63 : l.length + l2.length ≤ maxLen := by unfold maxLen; omega
    have hbb : (l.length + l2.length) * bytes ≤ 140737488355328 := Nat.le_trans (Nat.mul_le_mul hl hby) (by decide)
    have hone : ∀ {css : List (List Value)} {l : List α} {P : Nat → Prop}, All2 (E.is P w) css l → ∀ u ∈ css.flatten, u.oneCell' = true := by
      intro css l P
      induction css generalizing l with
      | nil => intro _ u hu; simp at hu
      | cons cs css ih =>
        intro q u hu
        cases l with
        | nil => exact q.elim
        | cons x l =>
          rw [List.flatten_cons] at hu
          rcases List.mem_append.1 hu with hu | hu
          · exact E.one q.1 u hu
          · exact ih q.2 u hu
    obtain ⟨v', w', h1, h2, h3, _, h5⟩ := run_append_own_at (P := Tryz.prog) w base E.S E.S E.T i0 z E.sz bytes hu hi hz0 hz1 hz2 hzs hsz v l.length css.flatten h.own ⟨g, 0, none⟩ l2.length cap css2.flatten (All2.flat q5)
      (fun j u hj => by
        rw [show (⟨g, 0, none⟩ : Addr).add j = ⟨g, j, none⟩ by unfold Addr.add; split <;> simp_all]
        exact q6 j u hj) (hone q5) h63 hbb hb
    have ht : Turn (fun k => v.ownBlock = some k) w w' := Turn.grown h3
    have key : ∀ cs y, E.is (fun k => base ≤ k ∧ v.ownBlock ≠ some k) w cs y → E.is (fun k => base ≤ k ∧ v'.ownBlock ≠ some k) w' cs y := fun cs y q => by
      refine E.mono (E.kept (E.mono q (fun k hk hlt => ⟨hk.1, hk.2, fun e => ?_⟩) (Q := fun k => base ≤ k ∧ v.ownBlock ≠ some k ∧ v'.ownBlock ≠ some k)) ht.size (fun k hk hlt => ht.block k hlt hk.2.1)) (fun k hk _ => ⟨hk.1, hk.2.2⟩)
      rcases h5 with h5 | h5
      · exact hk.2 (h5 ▸ e)
      · rw [h5] at e
        injection e with e
        omega
    have hap : ∀ {a : List (List Value)} {b : List α} {R : List Value → α → Prop}, All2 R a b → ∀ {c d}, All2 R c d → All2 R (a ++ c) (b ++ d) := by
      intro a b R
      induction a generalizing b with
      | nil =>
        intro q c d r
        cases b with
        | nil => exact r
        | cons y b => exact q.elim
      | cons x a ih =>
        intro q c d r
        cases b with
        | nil => exact q.elim
        | cons y b => exact ⟨q.1, ih q.2 r⟩
    refine ⟨v', w', css2, h1, ⟨?_, hap (h.all.imp key) (q5.imp key)⟩, ht⟩
    rw [List.flatten_append, List.length_append]; exact h2
theorem RowOf.of_own {α : Type} {E : Elt α} {base : Nat} {w : World} {v : Value} {css : List (List Value)} {l : List α} (h : OwnL E base w v css l) : RowOf E (base ≤ ·) w v l := by
  have hc := fun g => @World.ownsRow.cells w base E.T E.sz v l.length css.flatten h.own g
  rcases h.own.2 with ⟨h1, h2⟩ | ⟨g, cap, cur, h1, hg, hh, hn, hm, _⟩
  · exact .inl ⟨h1, List.eq_nil_of_length_eq_zero h2⟩
  · refine .inr ⟨g, cap, css, h1, hn, by unfold maxLen at hm; exact hm, hg, (Array.getElem?_eq_some_iff.1 hh).1, h.all.imp (fun a b q => E.mono q (fun k hk _ => hk.1)), fun j u hu => ?_⟩
    have := hc g (by rw [h1]; rfl) j u hu
    rwa [show (⟨g, 0, none⟩ : Addr).add j = ⟨g, j, none⟩ by unfold Addr.add; split <;> simp_all] at this

/-- expressions as such things -/
def exE : Elt Ex where
  T := 36
  S := 34
  sz := 9
  is := fun P w cs x => ∃ u, cs = exCells x.a u ∧ REs P w u x.l
  len := fun ⟨u, h, _⟩ => by rw [h]; rfl
  one := fun ⟨u, h, q⟩ v hv => by
    subst h
    have h1 := q.one
    simp only [exCells, Atom.cells, List.cons_append, List.nil_append, List.mem_cons, List.not_mem_nil, or_false] at hv
    rcases hv with rfl | rfl | rfl | rfl | rfl | rfl | rfl | rfl | rfl <;> first | rfl | exact h1
  kept := fun ⟨u, h, q⟩ hs hk => ⟨u, h, q.kept hs hk⟩
  mono := fun ⟨u, h, q⟩ hk => ⟨u, h, q.mono hk⟩
theorem exE_all {P : Nat → Prop} {w : World} : ∀ {css : List (List Value)} {l : List Ex}, All2 (exE.is P w) css l → ∃ us, REall P w us l ∧ css.flatten = cellsX us l
  | [], [], _ => ⟨[], trivial, rfl⟩
  | cs :: css, x :: l, ⟨⟨u, h, q⟩, r⟩ => by
    obtain ⟨us, h1, h2⟩ := exE_all r
    exact ⟨u :: us, ⟨q, h1⟩, by rw [List.flatten_cons, h, h2]; rfl⟩
  | [], _ :: _, q => q.elim
  | _ :: _, [], q => q.elim
theorem REs.of_row {P : Nat → Prop} {w : World} {v : Value} {l : List Ex} (h : RowOf exE P w v l) : REs P w v (Exs.ofL l) := by
  rcases h with ⟨h1, h2⟩ | ⟨g, cap, css, e, h1, h2, h3, h4, h5, h6⟩
  · subst h2; exact .inl ⟨h1, rfl⟩
  · obtain ⟨us, q1, q2⟩ := exE_all h5
    refine .inr ⟨g, cap, by rw [Exs.len_of]; exact e, by rw [Exs.len_of]; exact h1, h2, h3, h4, RE.of_cells g us l 0 q1 fun j u hu => ?_⟩
    rw [Nat.zero_add]; exact h6 j u (by rw [q2]; exact hu)
end
end Go.Proofs.YtenmnpbjnbdeaaaGreatDoor
