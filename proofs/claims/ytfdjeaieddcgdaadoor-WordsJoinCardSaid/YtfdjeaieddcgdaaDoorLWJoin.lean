/-
  WHAT IS PROVED: the walk of the statement WordsJoin.
-/
import Derived.Test.YtfdjeaieddcgdaaDoorWoO
namespace Go.Proofs.YtfdjeaieddcgdaaDoor
open Go.RowKit Go.Shelf
set_option linter.unusedVariables false

theorem join_data (a b : ByteArray) : (a ++ ⟨#[32]⟩ ++ b).data.toList = a.data.toList ++ 32 :: b.data.toList := by
  rw [ByteArray.data_append, ByteArray.data_append, Array.toList_append, Array.toList_append]; simp
theorem of_any6 (s : ByteArray) (w : World) (hw : Wo w) : Calls Tryd.prog 11 #[.string s] w fun e w' => ∃ v x y, e = .returned (.tuple #[v, .int .i64 (x : Int), .int .i64 (y : Int)]) ∧ Below w.heap.size w w' :=
  (of_any s w hw).mono fun e w' ⟨v, h1, _, h3⟩ => ⟨v, _, _, h1, h3⟩
theorem size_data (a : ByteArray) : a.data.toList.length = a.size := str_len a

set_option maxRecDepth 100000 in
set_option maxHeartbeats 4000000 in
theorem join_1 (a b : ByteArray) (w : World) (hw : Wo w) (hab : a.size + b.size ≤ 4000) (p : Nat) (hA : ofB a.data.toList = .bad p 4) (hp : p < a.size) (hq : a[p].toNat = 39) :
    Calls Tryd.prog 4 #[.string a, .string b] w fun e w' => e = .returned (.bool true) ∧ Below w.heap.size w w' := by
  have hz1 : ¬ 9223372036854775807 < a.size + 1 := by omega
  have hz2 : ¬ 9223372036854775807 < a.size + 1 + b.size := by omega
  have hle : ¬ 4000 < a.size + b.size := by omega
  have CA := fun w hw => of_bad a p 4 hA w hw
  have CB := fun w hw => of_any6 b w hw
  have CC := fun w hw => of_any6 (a ++ ⟨#[32]⟩ ++ b) w hw
  clear hA
  go_enter Tryd.func4, Tryd.ntmps4
  go_wp2_with fail
  refine (alive_yes6 _ hw).mono ?_
  rintro e w1 ⟨rfl, hb1⟩
  have HB1 := Lib.hid hb1
  have HW1 := Lib.hid (hw.kept hb1)
  clear hb1 hw
  go_wp2_with fail
  refine (CA _ HW1.out).mono ?_
  rintro e w2 ⟨aoa, capa, rfl, hb2⟩
  have HB2 := Lib.hid (HB1.out.trans (hb2.mono HB1.out.size))
  have HW2 := Lib.hid (HW1.out.kept hb2)
  clear hb2
  go_wp2_with fail
  refine (CB _ HW2.out).mono ?_
  rintro e w3 ⟨v2, x2, y2, rfl, hb3⟩
  have HB3 := Lib.hid (HB2.out.trans (hb3.mono HB2.out.size))
  have HW3 := Lib.hid (HW2.out.kept hb3)
  clear hb3
  go_wp2_with fail
  refine (CC _ HW3.out).mono ?_
  rintro e w4 ⟨v3, x3, y3, rfl, hb4⟩
  have HB4 := Lib.hid (HB3.out.trans (hb4.mono HB3.out.size))
  clear hb4
  go_wp2_with fail
  go_ret
  exact ⟨rfl, HB4.out⟩

set_option maxRecDepth 100000 in
set_option maxHeartbeats 4000000 in
theorem join_2a (a b : ByteArray) (w : World) (hw : Wo w) (hab : a.size + b.size ≤ 4000) (p e : Nat) (h0 : e ≠ 0) (hA : ofB a.data.toList = .bad p e) (hC : ofB (a ++ ⟨#[32]⟩ ++ b).data.toList = .bad p e) (he : e ≠ 4) :
    Calls Tryd.prog 4 #[.string a, .string b] w fun e w' => e = .returned (.bool true) ∧ Below w.heap.size w w' := by
  have hz1 : ¬ 9223372036854775807 < a.size + 1 := by omega
  have hz2 : ¬ 9223372036854775807 < a.size + 1 + b.size := by omega
  have hle : ¬ 4000 < a.size + b.size := by omega
  have hne : ((e : Int) != 0) = true := by simp; omega
  have CA := fun w hw => of_bad a p e hA w hw
  have CB := fun w hw => of_any6 b w hw
  have CC := fun w hw => of_bad (a ++ ⟨#[32]⟩ ++ b) p e hC w hw
  have e4 : ((e : Int) == 4) = false := by rw [beq_eq_false_iff_ne]; omega
  clear hA hC
  go_enter Tryd.func4, Tryd.ntmps4
  go_wp2_with fail
  refine (alive_yes6 _ hw).mono ?_
  rintro e w1 ⟨rfl, hb1⟩
  have HB1 := Lib.hid hb1
  have HW1 := Lib.hid (hw.kept hb1)
  clear hb1 hw
  go_wp2_with fail
  refine (CA _ HW1.out).mono ?_
  rintro e w2 ⟨aoa, capa, rfl, hb2⟩
  have HB2 := Lib.hid (HB1.out.trans (hb2.mono HB1.out.size))
  have HW2 := Lib.hid (HW1.out.kept hb2)
  clear hb2
  go_wp2_with fail
  refine (CB _ HW2.out).mono ?_
  rintro e w3 ⟨v2, x2, y2, rfl, hb3⟩
  have HB3 := Lib.hid (HB2.out.trans (hb3.mono HB2.out.size))
  have HW3 := Lib.hid (HW2.out.kept hb3)
  clear hb3
  go_wp2_with fail
  refine (CC _ HW3.out).mono ?_
  rintro e w4 ⟨aoc, capc, rfl, hb4⟩
  have HB4 := Lib.hid (HB3.out.trans (hb4.mono HB3.out.size))
  clear hb4
  go_wp2_with fail
  go_ret
  exact ⟨rfl, HB4.out⟩

set_option maxRecDepth 100000 in
set_option maxHeartbeats 4000000 in
theorem join_2b (a b : ByteArray) (w : World) (hw : Wo w) (hab : a.size + b.size ≤ 4000) (p e : Nat) (h0 : e ≠ 0) (hA : ofB a.data.toList = .bad p e) (hC : ofB (a ++ ⟨#[32]⟩ ++ b).data.toList = .bad p e) (he : e = 4) (hp : ¬ p < a.size) :
    Calls Tryd.prog 4 #[.string a, .string b] w fun e w' => e = .returned (.bool true) ∧ Below w.heap.size w w' := by
  have hz1 : ¬ 9223372036854775807 < a.size + 1 := by omega
  have hz2 : ¬ 9223372036854775807 < a.size + 1 + b.size := by omega
  have hle : ¬ 4000 < a.size + b.size := by omega
  have hne : ((e : Int) != 0) = true := by simp; omega
  have CA := fun w hw => of_bad a p e hA w hw
  have CB := fun w hw => of_any6 b w hw
  have CC := fun w hw => of_bad (a ++ ⟨#[32]⟩ ++ b) p e hC w hw
  subst he
  have hp1 : decide ((p : Int) < (a.size : Int)) = false := by simp; omega
  clear hA hC
  go_enter Tryd.func4, Tryd.ntmps4
  go_wp2_with fail
  refine (alive_yes6 _ hw).mono ?_
  rintro e w1 ⟨rfl, hb1⟩
  have HB1 := Lib.hid hb1
  have HW1 := Lib.hid (hw.kept hb1)
  clear hb1 hw
  go_wp2_with fail
  refine (CA _ HW1.out).mono ?_
  rintro e w2 ⟨aoa, capa, rfl, hb2⟩
  have HB2 := Lib.hid (HB1.out.trans (hb2.mono HB1.out.size))
  have HW2 := Lib.hid (HW1.out.kept hb2)
  clear hb2
  go_wp2_with fail
  refine (CB _ HW2.out).mono ?_
  rintro e w3 ⟨v2, x2, y2, rfl, hb3⟩
  have HB3 := Lib.hid (HB2.out.trans (hb3.mono HB2.out.size))
  have HW3 := Lib.hid (HW2.out.kept hb3)
  clear hb3
  go_wp2_with fail
  refine (CC _ HW3.out).mono ?_
  rintro e w4 ⟨aoc, capc, rfl, hb4⟩
  have HB4 := Lib.hid (HB3.out.trans (hb4.mono HB3.out.size))
  clear hb4
  go_wp2_with fail
  go_ret
  exact ⟨rfl, HB4.out⟩

set_option maxRecDepth 100000 in
set_option maxHeartbeats 4000000 in
theorem join_2c (a b : ByteArray) (w : World) (hw : Wo w) (hab : a.size + b.size ≤ 4000) (p e : Nat) (h0 : e ≠ 0) (hA : ofB a.data.toList = .bad p e) (hC : ofB (a ++ ⟨#[32]⟩ ++ b).data.toList = .bad p e) (he : e = 4) (hp : p < a.size) (hq : a[p].toNat ≠ 39) :
    Calls Tryd.prog 4 #[.string a, .string b] w fun e w' => e = .returned (.bool true) ∧ Below w.heap.size w w' := by
  have hz1 : ¬ 9223372036854775807 < a.size + 1 := by omega
  have hz2 : ¬ 9223372036854775807 < a.size + 1 + b.size := by omega
  have hle : ¬ 4000 < a.size + b.size := by omega
  have hne : ((e : Int) != 0) = true := by simp; omega
  have CA := fun w hw => of_bad a p e hA w hw
  have CB := fun w hw => of_any6 b w hw
  have CC := fun w hw => of_bad (a ++ ⟨#[32]⟩ ++ b) p e hC w hw
  subst he
  obtain ⟨m, hm⟩ : ∃ m, a[p].toNat = m := ⟨_, rfl⟩
  have hq1 : ((m : Int) == 39) = false := by rw [beq_eq_false_iff_ne]; omega
  clear hq
  clear hA hC
  go_enter Tryd.func4, Tryd.ntmps4
  go_wp2_with fail
  refine (alive_yes6 _ hw).mono ?_
  rintro e w1 ⟨rfl, hb1⟩
  have HB1 := Lib.hid hb1
  have HW1 := Lib.hid (hw.kept hb1)
  clear hb1 hw
  go_wp2_with fail
  refine (CA _ HW1.out).mono ?_
  rintro e w2 ⟨aoa, capa, rfl, hb2⟩
  have HB2 := Lib.hid (HB1.out.trans (hb2.mono HB1.out.size))
  have HW2 := Lib.hid (HW1.out.kept hb2)
  clear hb2
  go_wp2_with fail
  refine (CB _ HW2.out).mono ?_
  rintro e w3 ⟨v2, x2, y2, rfl, hb3⟩
  have HB3 := Lib.hid (HB2.out.trans (hb3.mono HB2.out.size))
  have HW3 := Lib.hid (HW2.out.kept hb3)
  clear hb3
  go_wp2_with fail
  refine (CC _ HW3.out).mono ?_
  rintro e w4 ⟨aoc, capc, rfl, hb4⟩
  have HB4 := Lib.hid (HB3.out.trans (hb4.mono HB3.out.size))
  clear hb4
  go_wp2_with fail
  go_ret
  exact ⟨rfl, HB4.out⟩

set_option maxRecDepth 100000 in
set_option maxHeartbeats 4000000 in
theorem join_3 (a b : ByteArray) (w : World) (hw : Wo w) (hab : a.size + b.size ≤ 4000) (l m : List WordM) (p : Nat) (hA : ofB a.data.toList = .ok l) (hB : ofB b.data.toList = .ok m) (hl : l.length ≤ 1024) (hm : m.length ≤ 1024) (hs : 1024 < l.length + m.length) (hC : ofB (a ++ ⟨#[32]⟩ ++ b).data.toList = .bad p 3) :
    Calls Tryd.prog 4 #[.string a, .string b] w fun e w' => e = .returned (.bool true) ∧ Below w.heap.size w w' := by
  have hz1 : ¬ 9223372036854775807 < a.size + 1 := by omega
  have hz2 : ¬ 9223372036854775807 < a.size + 1 + b.size := by omega
  have hle : ¬ 4000 < a.size + b.size := by omega
  have CA := fun w hw => of_ok a l hA w hw
  have CB := fun w hw => of_ok b m hB w hw
  have CC := fun w hw => of_bad (a ++ ⟨#[32]⟩ ++ b) p 3 hC w hw
  clear hA hB hC
  go_enter Tryd.func4, Tryd.ntmps4
  go_wp2_with fail
  refine (alive_yes6 _ hw).mono ?_
  rintro e w1 ⟨rfl, hb1⟩
  have HB1 := Lib.hid hb1
  have HW1 := Lib.hid (hw.kept hb1)
  clear hb1 hw
  go_wp2_with fail
  refine (CA _ HW1.out).mono ?_
  rintro e w2 ⟨va, rfl, hra, hb2⟩
  have HB2 := Lib.hid (HB1.out.trans (hb2.mono HB1.out.size))
  have HW2 := Lib.hid (HW1.out.kept hb2)
  obtain ⟨oa, ca, rfl, _, _⟩ := hra.slice
  have HRA := Lib.hid hra
  clear hra
  clear hb2
  go_wp2_with fail
  refine (CB _ HW2.out).mono ?_
  rintro e w3 ⟨vb, rfl, hrb, hb3⟩
  have HB3 := Lib.hid (HB2.out.trans (hb3.mono HB2.out.size))
  have HW3 := Lib.hid (HW2.out.kept hb3)
  obtain ⟨ob, cb, rfl, _, _⟩ := hrb.slice
  have HRB := Lib.hid hrb
  clear hrb
  clear hb3
  go_wp2_with fail
  refine (CC _ HW3.out).mono ?_
  rintro e w4 ⟨aoc, capc, rfl, hb4⟩
  have HB4 := Lib.hid (HB3.out.trans (hb4.mono HB3.out.size))
  clear hb4
  go_wp2_with fail
  go_ret
  exact ⟨rfl, HB4.out⟩

set_option maxRecDepth 100000 in
set_option maxHeartbeats 4000000 in
theorem join_4 (a b : ByteArray) (w : World) (hw : Wo w) (hab : a.size + b.size ≤ 4000) (l m o : List WordM) (hA : ofB a.data.toList = .ok l) (hB : ofB b.data.toList = .ok m) (hs : l.length + m.length ≤ 1024) (hC : ofB (a ++ ⟨#[32]⟩ ++ b).data.toList = .ok o) (hal : Alike (l ++ m) o) :
    Calls Tryd.prog 4 #[.string a, .string b] w fun e w' => e = .returned (.bool true) ∧ Below w.heap.size w w' := by
  have hz1 : ¬ 9223372036854775807 < a.size + 1 := by omega
  have hz2 : ¬ 9223372036854775807 < a.size + 1 + b.size := by omega
  have hle : ¬ 4000 < a.size + b.size := by omega
  have CA := fun w hw => of_ok a l hA w hw
  have CB := fun w hw => of_ok b m hB w hw
  have CC := fun w hw => of_ok (a ++ ⟨#[32]⟩ ++ b) o hC w hw
  have hs1 : ¬ 1024 < l.length + m.length := by omega
  clear hA hB hC
  go_enter Tryd.func4, Tryd.ntmps4
  go_wp2_with fail
  refine (alive_yes6 _ hw).mono ?_
  rintro e w1 ⟨rfl, hb1⟩
  have HB1 := Lib.hid hb1
  have HW1 := Lib.hid (hw.kept hb1)
  clear hb1 hw
  go_wp2_with fail
  refine (CA _ HW1.out).mono ?_
  rintro e w2 ⟨va, rfl, hra, hb2⟩
  have HB2 := Lib.hid (HB1.out.trans (hb2.mono HB1.out.size))
  have HW2 := Lib.hid (HW1.out.kept hb2)
  obtain ⟨oa, ca, rfl, _, _⟩ := hra.slice
  have HRA := Lib.hid hra
  clear hra
  clear hb2
  go_wp2_with fail
  refine (CB _ HW2.out).mono ?_
  rintro e w3 ⟨vb, rfl, hrb, hb3⟩
  have HB3 := Lib.hid (HB2.out.trans (hb3.mono HB2.out.size))
  have HW3 := Lib.hid (HW2.out.kept hb3)
  have HRA3 := Lib.hid (HRA.out.kept hb3)
  obtain ⟨ob, cb, rfl, _, _⟩ := hrb.slice
  have HRB := Lib.hid hrb
  clear hrb
  clear hb3
  go_wp2_with fail
  refine (CC _ HW3.out).mono ?_
  rintro e w4 ⟨vc, rfl, hrc, hb4⟩
  have HB4 := Lib.hid (HB3.out.trans (hb4.mono HB3.out.size))
  obtain ⟨v1, x1, v2, x2, r1, r2, hrow, hbx⟩ := run_append_two w4 _ _ l m (HRA3.out.kept hb4) (HRB.out.kept hb4) (by omega)
  have HROW := Lib.hid hrow
  have HBX := Lib.hid hbx
  have HRC := Lib.hid (hrc.kept hbx)
  obtain ⟨oc, cc, rfl, _, _⟩ := hrc.slice
  clear hrc hrow hbx
  clear hb4
  have R1 := Lib.hid r1
  have R2 := Lib.hid r2
  clear r1 r2
  go_wp2_with (at_builtin; first | (refine wpList_append_runG _ rfl _ _ _ rfl _ _ _ _ rfl rfl R1.out ?_) | (refine wpList_append_runG _ rfl _ _ _ rfl _ _ _ _ rfl rfl R2.out ?_))
  refine (alike_yes _ _ _ _ hal _ HROW.out HRC.out).mono ?_
  rintro e w5 ⟨rfl, hb5⟩
  have HB5 := Lib.hid ((HB4.out.trans (HBX.out.mono HB4.out.size)).trans (hb5.mono (by have := HB4.out.size; have := HBX.out.size; omega)))
  clear hb5
  go_wp2_with fail
  go_ret
  exact ⟨rfl, HB5.out⟩

set_option maxRecDepth 100000 in
set_option maxHeartbeats 4000000 in
theorem join_5 (a b : ByteArray) (w : World) (hw : Wo w) (hab : a.size + b.size ≤ 4000) (l : List WordM) (k e : Nat) (h0 : e ≠ 0) (hA : ofB a.data.toList = .ok l) (hl : l.length ≤ 1024) (hB : ofB b.data.toList = .bad k e) (hk : k ≤ 4000) (hC : ofB (a ++ ⟨#[32]⟩ ++ b).data.toList = .bad (k + a.size + 1) e) :
    Calls Tryd.prog 4 #[.string a, .string b] w fun e w' => e = .returned (.bool true) ∧ Below w.heap.size w w' := by
  have hz1 : ¬ 9223372036854775807 < a.size + 1 := by omega
  have hz2 : ¬ 9223372036854775807 < a.size + 1 + b.size := by omega
  have hle : ¬ 4000 < a.size + b.size := by omega
  have hne : ((e : Int) != 0) = true := by simp; omega
  have hl1 : ¬ 1024 < l.length := by omega
  have CA := fun w hw => of_ok a l hA w hw
  have CB := fun w hw => of_bad b k e hB w hw
  have CC := fun w hw => of_bad (a ++ ⟨#[32]⟩ ++ b) _ e hC w hw
  clear hA hB hC
  go_enter Tryd.func4, Tryd.ntmps4
  go_wp2_with fail
  refine (alive_yes6 _ hw).mono ?_
  rintro e w1 ⟨rfl, hb1⟩
  have HB1 := Lib.hid hb1
  have HW1 := Lib.hid (hw.kept hb1)
  clear hb1 hw
  go_wp2_with fail
  refine (CA _ HW1.out).mono ?_
  rintro e w2 ⟨va, rfl, hra, hb2⟩
  have HB2 := Lib.hid (HB1.out.trans (hb2.mono HB1.out.size))
  have HW2 := Lib.hid (HW1.out.kept hb2)
  obtain ⟨oa, ca, rfl, _, _⟩ := hra.slice
  have HRA := Lib.hid hra
  clear hra
  clear hb2
  go_wp2_with fail
  refine (CB _ HW2.out).mono ?_
  rintro e w3 ⟨aob, capb, rfl, hb3⟩
  have HB3 := Lib.hid (HB2.out.trans (hb3.mono HB2.out.size))
  have HW3 := Lib.hid (HW2.out.kept hb3)
  clear hb3
  go_wp2_with fail
  refine (CC _ HW3.out).mono ?_
  rintro e w4 ⟨aoc, capc, rfl, hb4⟩
  have HB4 := Lib.hid (HB3.out.trans (hb4.mono HB3.out.size))
  clear hb4
  go_wp2_with fail
  go_ret
  exact ⟨rfl, HB4.out⟩

set_option maxRecDepth 100000 in
set_option maxHeartbeats 4000000 in
theorem join_6 (a b : ByteArray) (w : World) (hw : Wo w) (hab : a.size + b.size ≤ 4000) (l : List WordM) (k e p : Nat) (h0 : e ≠ 0) (hA : ofB a.data.toList = .ok l) (hl : l.length ≤ 1024) (hl0 : 0 < l.length) (hB : ofB b.data.toList = .bad k e) (hk : k ≤ 4000) (hp : p ≤ 5000) (hC : ofB (a ++ ⟨#[32]⟩ ++ b).data.toList = .bad p 3) :
    Calls Tryd.prog 4 #[.string a, .string b] w fun e w' => e = .returned (.bool true) ∧ Below w.heap.size w w' := by
  have hz1 : ¬ 9223372036854775807 < a.size + 1 := by omega
  have hz2 : ¬ 9223372036854775807 < a.size + 1 + b.size := by omega
  have hle : ¬ 4000 < a.size + b.size := by omega
  have hne : ((e : Int) != 0) = true := by simp; omega
  have hl1 : ¬ 1024 < l.length := by omega
  have CA := fun w hw => of_ok a l hA w hw
  have CB := fun w hw => of_bad b k e hB w hw
  have CC := fun w hw => of_bad (a ++ ⟨#[32]⟩ ++ b) p 3 hC w hw
  clear hA hB hC
  go_enter Tryd.func4, Tryd.ntmps4
  go_wp2_with fail
  refine (alive_yes6 _ hw).mono ?_
  rintro e w1 ⟨rfl, hb1⟩
  have HB1 := Lib.hid hb1
  have HW1 := Lib.hid (hw.kept hb1)
  clear hb1 hw
  go_wp2_with fail
  refine (CA _ HW1.out).mono ?_
  rintro e w2 ⟨va, rfl, hra, hb2⟩
  have HB2 := Lib.hid (HB1.out.trans (hb2.mono HB1.out.size))
  have HW2 := Lib.hid (HW1.out.kept hb2)
  obtain ⟨oa, ca, rfl, _, _⟩ := hra.slice
  have HRA := Lib.hid hra
  clear hra
  clear hb2
  go_wp2_with fail
  refine (CB _ HW2.out).mono ?_
  rintro e w3 ⟨aob, capb, rfl, hb3⟩
  have HB3 := Lib.hid (HB2.out.trans (hb3.mono HB2.out.size))
  have HW3 := Lib.hid (HW2.out.kept hb3)
  clear hb3
  go_wp2_with fail
  refine (CC _ HW3.out).mono ?_
  rintro e w4 ⟨aoc, capc, rfl, hb4⟩
  have HB4 := Lib.hid (HB3.out.trans (hb4.mono HB3.out.size))
  clear hb4
  go_wp2_with fail
  all_goals
    go_ret
    exact ⟨by simp_all, HB4.out⟩

set_option maxHeartbeats 1000000 in
theorem join_0 (a b : ByteArray) (w : World) (hw : Wo w) (ha : a.size ≤ 140737488351232) (hb : b.size ≤ 140737488351232) (hab : 4000 < a.size + b.size) :
    Calls Tryd.prog 4 #[.string a, .string b] w fun e w' => e = .returned (.bool true) ∧ Below w.heap.size w w' := by
  go_enter Tryd.func4, Tryd.ntmps4
  go_wp2_with fail
  refine (alive_yes6 _ hw).mono ?_
  rintro e w1 ⟨rfl, hb1⟩
  have HB1 := Lib.hid hb1
  have HW1 := Lib.hid (hw.kept hb1)
  clear hb1 hw
  go_wp2_with fail
  refine (alive_yes6 _ HW1.out).mono ?_
  rintro e w2 ⟨rfl, hb2⟩
  have HB2 := Lib.hid (HB1.out.trans (hb2.mono HB1.out.size))
  clear hb2
  go_wp2_with fail
  go_ret
  exact ⟨rfl, HB2.out⟩

theorem ofB_pos {s : List UInt8} {p e : Nat} (hs : s.length ≤ 4096) (h : ofB s = .bad p e) : p < s.length ∧ e ≠ 0 := by
  rw [ofB_lex, if_neg (by omega)] at h
  refine ⟨by have := lexB_lt p e (s.length + 1) 0 0 s (by omega) h; omega, lexB_err _ _ _ _ _ h⟩

theorem walk_WordsJoin (a : ByteArray) (ha : a.size ≤ 140737488351232) (b : ByteArray) (hb : b.size ≤ 140737488351232) {w : World} (hw : Wo w) :
    Calls Tryd.prog 4 #[.string a, .string b] w fun e w' => e = .returned (.bool true) ∧ Below w.heap.size w w' := by
  by_cases hab : 4000 < a.size + b.size
  · exact join_0 a b w hw ha hb hab
  have la := str_len a
  have lb := str_len b
  have hC := join_data a b
  rcases join_ways a.data.toList b.data.toList (by omega) with ⟨p, h1, h2⟩ | ⟨p, e, h1, h2, h3⟩ | ⟨l, m, p, h1, h2, h3, h4⟩ | ⟨l, m, o, h1, h2, h3, h4, h5⟩ | ⟨l, k, e, h1, h2, h3, h4⟩ | ⟨l, k, e, p, h1, h2, h3, h4, h5⟩
  · have hp : p < a.size := by rw [← la]; exact (List.getElem?_eq_some_iff.1 h2).1
    rw [str_get a p hp] at h2
    exact join_1 a b w hw (by omega) p h1 hp (by rw [Option.some.inj h2]; rfl)
  · have h0 := (ofB_pos (by omega) h1).2
    rw [← hC] at h3
    by_cases he : e = 4
    · by_cases hp : p < a.size
      · refine join_2c a b w hw (by omega) p e h0 h1 h3 he hp (fun h39 => h2 ⟨he, ?_⟩)
        rw [str_get a p hp, u8_eq39 h39]
      · exact join_2b a b w hw (by omega) p e h0 h1 h3 he hp
    · exact join_2a a b w hw (by omega) p e h0 h1 h3 he
  · rw [← hC] at h4
    exact join_3 a b w hw (by omega) l m p h1 h2 (ofB_len h1) (ofB_len h2) h3 h4
  · rw [← hC] at h4
    exact join_4 a b w hw (by omega) l m o h1 h2 h3 h4 h5
  · have hk := ofB_pos (by omega) h3
    rw [← hC, la] at h4
    exact join_5 a b w hw (by omega) l k e hk.2 h1 h2 h3 (by omega) h4
  · have hk := ofB_pos (by omega) h4
    rw [← hC] at h5
    have hp := (ofB_pos (by rw [hC]; simp; omega) h5).1
    rw [hC] at hp
    exact join_6 a b w hw (by omega) l k e p hk.2 h1 h2 h3 h4 (by omega) (by simp at hp; omega) h5
end Go.Proofs.YtfdjeaieddcgdaaDoor
