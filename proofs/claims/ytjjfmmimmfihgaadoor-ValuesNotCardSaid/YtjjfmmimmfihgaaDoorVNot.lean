/-
  WHAT IS PROVED: the walk of ValuesNot.
-/
import Derived.Test.YtjjfmmimmfihgaaDoorMerge
namespace Go.Proofs.YtjjfmmimmfihgaaDoor
open Go.RowKit Go.Lib
set_option linter.unusedVariables false

set_option maxRecDepth 100000 in
set_option maxHeartbeats 8000000 in
theorem not_long (ak : Nat) (akb : ak < 256) (ai : Int) (ai0 : -9223372036854775808 ≤ ai) (ai1 : ai ≤ 9223372036854775807) (az : ByteArray) (azb : az.size ≤ 140737488351232) (bk : Nat) (bkb : bk < 256) (bi : Int) (bi0 : -9223372036854775808 ≤ bi) (bi1 : bi ≤ 9223372036854775807) (bz : ByteArray) (bzb : bz.size ≤ 140737488351232) (hbig : decide ((20000 : Int) < (az.size : Int) + (bz.size : Int)) = true) (w : World) (hw : Wd w) :
    Calls Tryd.prog 5 #[.agg #[.int .u8 (ak : Int), .int .i64 ai, .string az], .agg #[.int .u8 (bk : Int), .int .i64 bi, .string bz]] w fun e w' => e = .returned (.bool true) ∧ Below w.heap.size w w' := by
  obtain ⟨w0, hW⟩ : ∃ w0, w0 = ((w.alloc (.cells #[.int .u8 (ak : Int), .int .i64 ai, .string az] 25)).alloc (.cells #[.int .u8 (bk : Int), .int .i64 bi, .string bz] 25)) := ⟨_, rfl⟩
  have H0 : Hid (Fam w [(w.heap.size + 1, .cells #[.int .u8 (bk : Int), .int .i64 bi, .string bz] 25 (0, 0)), (w.heap.size, .cells #[.int .u8 (ak : Int), .int .i64 ai, .string az] 25 (0, 0))] w0) := Lib.hid (by rw [hW]; exact fam_n2 ..)
  have HW : Hid (∀ x, Below w.heap.size w x → Wd x) := Lib.hid (fun _ h => hw.kept h)
  clear hw
  go_enter Tryd.func5, Tryd.ntmps5
  go_wp2_with fail
  rw [← hW]
  clear hW
  refine (alive_yes _ (HW.out _ H0.out.below)).mono ?_
  rintro e w1 ⟨rfl, hb⟩
  have H1 := Lib.hid (H0.out.kept hb)
  clear hb 
  have f0_0 : w1.cell? ⟨w.heap.size + 1, 0, none⟩ = some (.int .u8 (bk : Int)) := H1.out.cell (b := w.heap.size + 1) (cs := #[.int .u8 (bk : Int), .int .i64 bi, .string bz]) (t := 25) (fr := (0, 0)) (List.mem_cons_self ..) 0
  have f0_1 : w1.cell? ⟨w.heap.size + 1, 1, none⟩ = some (.int .i64 bi) := H1.out.cell (b := w.heap.size + 1) (cs := #[.int .u8 (bk : Int), .int .i64 bi, .string bz]) (t := 25) (fr := (0, 0)) (List.mem_cons_self ..) 1
  have f0_2 : w1.cell? ⟨w.heap.size + 1, 2, none⟩ = some (.string bz) := H1.out.cell (b := w.heap.size + 1) (cs := #[.int .u8 (bk : Int), .int .i64 bi, .string bz]) (t := 25) (fr := (0, 0)) (List.mem_cons_self ..) 2
  have z0 : w.heap.size + 1 < w1.heap.size := lt_of_block (H1.out.get (b := w.heap.size + 1) (o := .cells #[.int .u8 (bk : Int), .int .i64 bi, .string bz] 25 (0, 0)) (List.mem_cons_self ..))
  have f1_0 : w1.cell? ⟨w.heap.size, 0, none⟩ = some (.int .u8 (ak : Int)) := H1.out.cell (b := w.heap.size) (cs := #[.int .u8 (ak : Int), .int .i64 ai, .string az]) (t := 25) (fr := (0, 0)) (List.mem_cons_of_mem _ (List.mem_cons_self ..)) 0
  have f1_1 : w1.cell? ⟨w.heap.size, 1, none⟩ = some (.int .i64 ai) := H1.out.cell (b := w.heap.size) (cs := #[.int .u8 (ak : Int), .int .i64 ai, .string az]) (t := 25) (fr := (0, 0)) (List.mem_cons_of_mem _ (List.mem_cons_self ..)) 1
  have f1_2 : w1.cell? ⟨w.heap.size, 2, none⟩ = some (.string az) := H1.out.cell (b := w.heap.size) (cs := #[.int .u8 (ak : Int), .int .i64 ai, .string az]) (t := 25) (fr := (0, 0)) (List.mem_cons_of_mem _ (List.mem_cons_self ..)) 2
  have z1 : w.heap.size < w1.heap.size := lt_of_block (H1.out.get (b := w.heap.size) (o := .cells #[.int .u8 (ak : Int), .int .i64 ai, .string az] 25 (0, 0)) (List.mem_cons_of_mem _ (List.mem_cons_self ..)))
  go_wp2_with fail
  refine (long2_new _ _ _ _ az bz azb bzb _ true hbig).mono ?_
  rintro e w2 ⟨rfl, hb⟩
  have H2 := Lib.hid (H1.out.kept hb)
  clear f0_0 f0_1 f0_2 z0 f1_0 f1_1 f1_2 z1
  clear hb 
  go_wp2_with fail
  refine (alive_yes _ (HW.out _ H2.out.below)).mono ?_
  rintro e w3 ⟨rfl, hb⟩
  have H3 := Lib.hid (H2.out.kept hb)
  clear hb 
  go_wp2_with fail
  go_ret
  exact ⟨rfl, H3.out.below⟩
set_option maxRecDepth 100000 in
set_option maxHeartbeats 8000000 in
theorem not_not (ak : Nat) (akb : ak < 256) (ai : Int) (ai0 : -9223372036854775808 ≤ ai) (ai1 : ai ≤ 9223372036854775807) (az : ByteArray) (azb : az.size ≤ 140737488351232) (bk : Nat) (bkb : bk < 256) (bi : Int) (bi0 : -9223372036854775808 ≤ bi) (bi1 : bi ≤ 9223372036854775807) (bz : ByteArray) (bzb : bz.size ≤ 140737488351232) (hbig : decide ((20000 : Int) < (az.size : Int) + (bz.size : Int)) = false) (hfine : (Val.fine ⟨ak, ai, az⟩ && Val.fine ⟨bk, bi, bz⟩) = false) (w : World) (hw : Wd w) :
    Calls Tryd.prog 5 #[.agg #[.int .u8 (ak : Int), .int .i64 ai, .string az], .agg #[.int .u8 (bk : Int), .int .i64 bi, .string bz]] w fun e w' => e = .returned (.bool true) ∧ Below w.heap.size w w' := by
  obtain ⟨w0, hW⟩ : ∃ w0, w0 = ((w.alloc (.cells #[.int .u8 (ak : Int), .int .i64 ai, .string az] 25)).alloc (.cells #[.int .u8 (bk : Int), .int .i64 bi, .string bz] 25)) := ⟨_, rfl⟩
  have H0 : Hid (Fam w [(w.heap.size + 1, .cells #[.int .u8 (bk : Int), .int .i64 bi, .string bz] 25 (0, 0)), (w.heap.size, .cells #[.int .u8 (ak : Int), .int .i64 ai, .string az] 25 (0, 0))] w0) := Lib.hid (by rw [hW]; exact fam_n2 ..)
  have HW : Hid (∀ x, Below w.heap.size w x → Wd x) := Lib.hid (fun _ h => hw.kept h)
  clear hw
  go_enter Tryd.func5, Tryd.ntmps5
  go_wp2_with fail
  rw [← hW]
  clear hW
  refine (alive_yes _ (HW.out _ H0.out.below)).mono ?_
  rintro e w1 ⟨rfl, hb⟩
  have H1 := Lib.hid (H0.out.kept hb)
  clear hb 
  have f0_0 : w1.cell? ⟨w.heap.size + 1, 0, none⟩ = some (.int .u8 (bk : Int)) := H1.out.cell (b := w.heap.size + 1) (cs := #[.int .u8 (bk : Int), .int .i64 bi, .string bz]) (t := 25) (fr := (0, 0)) (List.mem_cons_self ..) 0
  have f0_1 : w1.cell? ⟨w.heap.size + 1, 1, none⟩ = some (.int .i64 bi) := H1.out.cell (b := w.heap.size + 1) (cs := #[.int .u8 (bk : Int), .int .i64 bi, .string bz]) (t := 25) (fr := (0, 0)) (List.mem_cons_self ..) 1
  have f0_2 : w1.cell? ⟨w.heap.size + 1, 2, none⟩ = some (.string bz) := H1.out.cell (b := w.heap.size + 1) (cs := #[.int .u8 (bk : Int), .int .i64 bi, .string bz]) (t := 25) (fr := (0, 0)) (List.mem_cons_self ..) 2
  have z0 : w.heap.size + 1 < w1.heap.size := lt_of_block (H1.out.get (b := w.heap.size + 1) (o := .cells #[.int .u8 (bk : Int), .int .i64 bi, .string bz] 25 (0, 0)) (List.mem_cons_self ..))
  have f1_0 : w1.cell? ⟨w.heap.size, 0, none⟩ = some (.int .u8 (ak : Int)) := H1.out.cell (b := w.heap.size) (cs := #[.int .u8 (ak : Int), .int .i64 ai, .string az]) (t := 25) (fr := (0, 0)) (List.mem_cons_of_mem _ (List.mem_cons_self ..)) 0
  have f1_1 : w1.cell? ⟨w.heap.size, 1, none⟩ = some (.int .i64 ai) := H1.out.cell (b := w.heap.size) (cs := #[.int .u8 (ak : Int), .int .i64 ai, .string az]) (t := 25) (fr := (0, 0)) (List.mem_cons_of_mem _ (List.mem_cons_self ..)) 1
  have f1_2 : w1.cell? ⟨w.heap.size, 2, none⟩ = some (.string az) := H1.out.cell (b := w.heap.size) (cs := #[.int .u8 (ak : Int), .int .i64 ai, .string az]) (t := 25) (fr := (0, 0)) (List.mem_cons_of_mem _ (List.mem_cons_self ..)) 2
  have z1 : w.heap.size < w1.heap.size := lt_of_block (H1.out.get (b := w.heap.size) (o := .cells #[.int .u8 (ak : Int), .int .i64 ai, .string az] 25 (0, 0)) (List.mem_cons_of_mem _ (List.mem_cons_self ..)))
  go_wp2_with fail
  refine (long2_new _ _ _ _ az bz azb bzb _ false hbig).mono ?_
  rintro e w2 ⟨rfl, hb⟩
  have H2 := Lib.hid (H1.out.kept hb)
  clear f0_0 f0_1 f0_2 z0 f1_0 f1_1 f1_2 z1
  clear hb 
  have f0_0 : w2.cell? ⟨w.heap.size + 1, 0, none⟩ = some (.int .u8 (bk : Int)) := H2.out.cell (b := w.heap.size + 1) (cs := #[.int .u8 (bk : Int), .int .i64 bi, .string bz]) (t := 25) (fr := (0, 0)) (List.mem_cons_self ..) 0
  have f0_1 : w2.cell? ⟨w.heap.size + 1, 1, none⟩ = some (.int .i64 bi) := H2.out.cell (b := w.heap.size + 1) (cs := #[.int .u8 (bk : Int), .int .i64 bi, .string bz]) (t := 25) (fr := (0, 0)) (List.mem_cons_self ..) 1
  have f0_2 : w2.cell? ⟨w.heap.size + 1, 2, none⟩ = some (.string bz) := H2.out.cell (b := w.heap.size + 1) (cs := #[.int .u8 (bk : Int), .int .i64 bi, .string bz]) (t := 25) (fr := (0, 0)) (List.mem_cons_self ..) 2
  have z0 : w.heap.size + 1 < w2.heap.size := lt_of_block (H2.out.get (b := w.heap.size + 1) (o := .cells #[.int .u8 (bk : Int), .int .i64 bi, .string bz] 25 (0, 0)) (List.mem_cons_self ..))
  have f1_0 : w2.cell? ⟨w.heap.size, 0, none⟩ = some (.int .u8 (ak : Int)) := H2.out.cell (b := w.heap.size) (cs := #[.int .u8 (ak : Int), .int .i64 ai, .string az]) (t := 25) (fr := (0, 0)) (List.mem_cons_of_mem _ (List.mem_cons_self ..)) 0
  have f1_1 : w2.cell? ⟨w.heap.size, 1, none⟩ = some (.int .i64 ai) := H2.out.cell (b := w.heap.size) (cs := #[.int .u8 (ak : Int), .int .i64 ai, .string az]) (t := 25) (fr := (0, 0)) (List.mem_cons_of_mem _ (List.mem_cons_self ..)) 1
  have f1_2 : w2.cell? ⟨w.heap.size, 2, none⟩ = some (.string az) := H2.out.cell (b := w.heap.size) (cs := #[.int .u8 (ak : Int), .int .i64 ai, .string az]) (t := 25) (fr := (0, 0)) (List.mem_cons_of_mem _ (List.mem_cons_self ..)) 2
  have z1 : w.heap.size < w2.heap.size := lt_of_block (H2.out.get (b := w.heap.size) (o := .cells #[.int .u8 (ak : Int), .int .i64 ai, .string az] 25 (0, 0)) (List.mem_cons_of_mem _ (List.mem_cons_self ..)))
  go_wp2_with fail
  refine (fine2_new ak ai az akb bk bi bz bkb _ false hfine).mono ?_
  rintro e w3 ⟨rfl, hb⟩
  have H3 := Lib.hid (H2.out.kept hb)
  clear f0_0 f0_1 f0_2 z0 f1_0 f1_1 f1_2 z1
  clear hb 
  go_wp2_with fail
  refine (alive_yes _ (HW.out _ H3.out.below)).mono ?_
  rintro e w4 ⟨rfl, hb⟩
  have H4 := Lib.hid (H3.out.kept hb)
  clear hb 
  go_wp2_with fail
  go_ret
  exact ⟨rfl, H4.out.below⟩
theorem not_ops (k : Nat) (h : k < 3) : ∃ op oq : Nat, (#[.int .u8 13, .int .u8 16, .int .u8 15, .int .u8 14, .int .u8 11, .int .u8 12] : Array Value)[k * 2]? = some (.int .u8 (op : Int)) ∧ (#[.int .u8 13, .int .u8 16, .int .u8 15, .int .u8 14, .int .u8 11, .int .u8 12] : Array Value)[k * 2 + 1]? = some (.int .u8 (oq : Int)) ∧ op < 256 ∧ oq < 256 ∧ (op = 13 ∧ oq = 16 ∨ op = 15 ∧ oq = 14 ∨ op = 11 ∧ oq = 12) := by
  rcases (show k = 0 ∨ k = 1 ∨ k = 2 by omega) with rfl | rfl | rfl
  · exact ⟨13, 16, rfl, rfl, by omega, by omega, by omega⟩
  · exact ⟨15, 14, rfl, rfl, by omega, by omega, by omega⟩
  · exact ⟨11, 12, rfl, rfl, by omega, by omega, by omega⟩
theorem serves_not {op oq : Nat} (h : op = 13 ∧ oq = 16 ∨ op = 15 ∧ oq = 14 ∨ op = 11 ∧ oq = 12) (c : Int) : Val.serves oq c = !Val.serves op c := by
  rcases h with ⟨rfl, rfl⟩ | ⟨rfl, rfl⟩ | ⟨rfl, rfl⟩
  · show decide (0 ≤ c) = !decide (c < 0)
    by_cases h : c < 0
    · have : ¬ 0 ≤ c := by omega
      simp [h, this]
    · have : 0 ≤ c := by omega
      simp [h, this]
  · show decide (c ≤ 0) = !decide (0 < c)
    by_cases h : c ≤ 0
    · have : ¬ 0 < c := by omega
      simp [h, this]
    · have : 0 < c := by omega
      simp [h, this]
  · rfl
theorem one_of_yes (b : Bool) : (Val.one 2 (Val.yes b)).1 = Val.yes !b := by cases b <;> rfl
theorem not_pair {op oq : Nat} (h : op = 13 ∧ oq = 16 ∨ op = 15 ∧ oq = 14 ∨ op = 11 ∧ oq = 12) {a b : Val} (fa : a.fine = true) (fb : b.fine = true) :
    ∃ xk xi yk yi, Val.two op a b = (⟨xk, xi, ⟨#[]⟩⟩, 0) ∧ Val.two oq a b = (⟨yk, yi, ⟨#[]⟩⟩, 0) ∧ (Val.one 2 ⟨xk, xi, ⟨#[]⟩⟩).1 = ⟨yk, yi, ⟨#[]⟩⟩ ∧ (Val.one 2 ⟨yk, yi, ⟨#[]⟩⟩).1 = ⟨xk, xi, ⟨#[]⟩⟩ ∧
      xk < 256 ∧ (-9223372036854775808 ≤ xi ∧ xi ≤ 9223372036854775807) ∧ yk < 256 ∧ (-9223372036854775808 ≤ yi ∧ yi ≤ 9223372036854775807) := by
  have two_order' : ∀ {q : Nat}, 11 ≤ q → q ≤ 16 → ¬ (a.k = 0 ∨ b.k = 0) → Val.two q a b = (Val.yes (Val.serves q (Val.cmp a b)), 0) := fun h5 h16 hn => by
    rw [fine_two (by rw [fa, fb]; simp; omega)]
    unfold Val.two0
    rw [if_neg (by omega), if_neg hn, if_neg (by omega), if_pos (by omega)]
  have two_nil' : ∀ {q : Nat}, 11 ≤ q → q ≤ 16 → (a.k = 0 ∨ b.k = 0) → Val.two q a b = (Val.nil, 0) := fun h5 h16 hn => by
    rw [fine_two (by rw [fa, fb]; simp; omega)]
    unfold Val.two0
    rw [if_neg (by omega), if_pos hn]
  by_cases hn : a.k = 0 ∨ b.k = 0
  · refine ⟨0, 0, 0, 0, two_nil' (by omega) (by omega) hn, two_nil' (by omega) (by omega) hn, rfl, rfl, by omega, by omega, by omega, by omega⟩
  · have e1 := two_order' (q := op) (by omega) (by omega) hn
    have e2 := two_order' (q := oq) (by omega) (by omega) hn
    rw [serves_not h] at e2
    cases hb : Val.serves op (Val.cmp a b) with
    | true => rw [hb] at e1 e2; exact ⟨1, 1, 1, 0, e1, e2, one_of_yes true, one_of_yes false, by omega, by omega, by omega, by omega⟩
    | false => rw [hb] at e1 e2; exact ⟨1, 0, 1, 1, e1, e2, one_of_yes false, one_of_yes true, by omega, by omega, by omega, by omega⟩
theorem not_both (a b : Val) (fa : a.fine = true) (fb : b.fine = true) (ha : a.k ≠ 2) (hb : b.k ≠ 2) :
    ∃ uk ui tk ti sk si vk vi, Val.two 17 a b = (⟨uk, ui, ⟨#[]⟩⟩, 0) ∧ (Val.one 2 a).1 = ⟨tk, ti, ⟨#[]⟩⟩ ∧ (Val.one 2 b).1 = ⟨sk, si, ⟨#[]⟩⟩ ∧ Val.two 18 ⟨tk, ti, ⟨#[]⟩⟩ ⟨sk, si, ⟨#[]⟩⟩ = (⟨vk, vi, ⟨#[]⟩⟩, 0) ∧ (Val.one 2 ⟨uk, ui, ⟨#[]⟩⟩).1 = ⟨vk, vi, ⟨#[]⟩⟩ ∧
      uk < 256 ∧ (-9223372036854775808 ≤ ui ∧ ui ≤ 9223372036854775807) ∧ tk < 256 ∧ (-9223372036854775808 ≤ ti ∧ ti ≤ 9223372036854775807) ∧ sk < 256 ∧ (-9223372036854775808 ≤ si ∧ si ≤ 9223372036854775807) := by
  have h17 : Val.two 17 a b = Val.both false a b := by
    rw [fine_two (by rw [fa, fb]; simp)]
    unfold Val.two0
    rw [if_pos (by omega)]
    rfl
  have num : ∀ i : Int, (Val.one 2 ⟨1, i, ⟨#[]⟩⟩).1 = ⟨1, bitI (decide (i = 0)), ⟨#[]⟩⟩ := fun _ => rfl
  rcases Val.fine_cases fa with rfl | ⟨i, rfl⟩ | ⟨t, rfl, _⟩
  · rcases Val.fine_cases fb with rfl | ⟨j, rfl⟩ | ⟨t, rfl, _⟩
    · exact ⟨0, 0, 0, 0, 0, 0, 0, 0, (by rw [h17]; unfold Val.both; simp [Val.decides, Val.yes, Val.num, Val.nil, bitI, noS]), rfl, rfl, (by kernel_rfl), (by kernel_rfl), by omega, by omega, by omega, by omega, by omega, by omega⟩
    · by_cases hy : j = 0
      · exact ⟨1, 0, 0, 0, 1, 1, 1, 1, (by rw [h17]; unfold Val.both; simp [Val.decides, Val.yes, Val.num, Val.nil, bitI, noS, hy]), rfl, (by rw [show ∀ n, Val.num n = ⟨1, n, ⟨#[]⟩⟩ from fun _ => rfl, num]; simp [hy, bitI]), (by kernel_rfl), (by kernel_rfl), by omega, by omega, by omega, by omega, by omega, by omega⟩
      · exact ⟨0, 0, 0, 0, 1, 0, 0, 0, (by rw [h17]; unfold Val.both; simp [Val.decides, Val.yes, Val.num, Val.nil, bitI, noS, hy]), rfl, (by rw [show ∀ n, Val.num n = ⟨1, n, ⟨#[]⟩⟩ from fun _ => rfl, num]; simp [hy, bitI]), (by kernel_rfl), (by kernel_rfl), by omega, by omega, by omega, by omega, by omega, by omega⟩
    · exact absurd rfl hb
  · by_cases hz : i = 0
    · rcases Val.fine_cases fb with rfl | ⟨j, rfl⟩ | ⟨t, rfl, _⟩
      · exact ⟨1, 0, 1, 1, 0, 0, 1, 1, (by rw [h17]; unfold Val.both; simp [Val.decides, Val.yes, Val.num, Val.nil, bitI, noS, hz]), (by rw [show ∀ n, Val.num n = ⟨1, n, ⟨#[]⟩⟩ from fun _ => rfl, num]; simp [hz, bitI]), rfl, (by kernel_rfl), (by kernel_rfl), by omega, by omega, by omega, by omega, by omega, by omega⟩
      · by_cases hy : j = 0
        · exact ⟨1, 0, 1, 1, 1, 1, 1, 1, (by rw [h17]; unfold Val.both; simp [Val.decides, Val.yes, Val.num, Val.nil, bitI, noS, hz, hy]), (by rw [show ∀ n, Val.num n = ⟨1, n, ⟨#[]⟩⟩ from fun _ => rfl, num]; simp [hz, bitI]), (by rw [show ∀ n, Val.num n = ⟨1, n, ⟨#[]⟩⟩ from fun _ => rfl, num]; simp [hy, bitI]), (by kernel_rfl), (by kernel_rfl), by omega, by omega, by omega, by omega, by omega, by omega⟩
        · exact ⟨1, 0, 1, 1, 1, 0, 1, 1, (by rw [h17]; unfold Val.both; simp [Val.decides, Val.yes, Val.num, Val.nil, bitI, noS, hz, hy]), (by rw [show ∀ n, Val.num n = ⟨1, n, ⟨#[]⟩⟩ from fun _ => rfl, num]; simp [hz, bitI]), (by rw [show ∀ n, Val.num n = ⟨1, n, ⟨#[]⟩⟩ from fun _ => rfl, num]; simp [hy, bitI]), (by kernel_rfl), (by kernel_rfl), by omega, by omega, by omega, by omega, by omega, by omega⟩
      · exact absurd rfl hb
    · rcases Val.fine_cases fb with rfl | ⟨j, rfl⟩ | ⟨t, rfl, _⟩
      · exact ⟨0, 0, 1, 0, 0, 0, 0, 0, (by rw [h17]; unfold Val.both; simp [Val.decides, Val.yes, Val.num, Val.nil, bitI, noS, hz]), (by rw [show ∀ n, Val.num n = ⟨1, n, ⟨#[]⟩⟩ from fun _ => rfl, num]; simp [hz, bitI]), rfl, (by kernel_rfl), (by kernel_rfl), by omega, by omega, by omega, by omega, by omega, by omega⟩
      · by_cases hy : j = 0
        · exact ⟨1, 0, 1, 0, 1, 1, 1, 1, (by rw [h17]; unfold Val.both; simp [Val.decides, Val.yes, Val.num, Val.nil, bitI, noS, hz, hy]), (by rw [show ∀ n, Val.num n = ⟨1, n, ⟨#[]⟩⟩ from fun _ => rfl, num]; simp [hz, bitI]), (by rw [show ∀ n, Val.num n = ⟨1, n, ⟨#[]⟩⟩ from fun _ => rfl, num]; simp [hy, bitI]), (by kernel_rfl), (by kernel_rfl), by omega, by omega, by omega, by omega, by omega, by omega⟩
        · exact ⟨1, 1, 1, 0, 1, 0, 1, 0, (by rw [h17]; unfold Val.both; simp [Val.decides, Val.yes, Val.num, Val.nil, bitI, noS, hz, hy]), (by rw [show ∀ n, Val.num n = ⟨1, n, ⟨#[]⟩⟩ from fun _ => rfl, num]; simp [hz, bitI]), (by rw [show ∀ n, Val.num n = ⟨1, n, ⟨#[]⟩⟩ from fun _ => rfl, num]; simp [hy, bitI]), (by kernel_rfl), (by kernel_rfl), by omega, by omega, by omega, by omega, by omega, by omega⟩
      · exact absurd rfl hb
  · exact absurd rfl ha
set_option maxRecDepth 100000 in
set_option maxHeartbeats 8000000 in
theorem not_body (ak : Nat) (akb : ak < 256) (ai : Int) (ai0 : -9223372036854775808 ≤ ai) (ai1 : ai ≤ 9223372036854775807) (az : ByteArray) (azb : az.size ≤ 140737488351232) (bk : Nat) (bkb : bk < 256) (bi : Int) (bi0 : -9223372036854775808 ≤ bi) (bi1 : bi ≤ 9223372036854775807) (bz : ByteArray) (bzb : bz.size ≤ 140737488351232) (hbig : decide ((20000 : Int) < (az.size : Int) + (bz.size : Int)) = false) (hfine : (Val.fine ⟨ak, ai, az⟩ && Val.fine ⟨bk, bi, bz⟩) = true) (hfa : Val.fine ⟨ak, ai, az⟩ = true) (hfb : Val.fine ⟨bk, bi, bz⟩ = true) (w : World) (hw : Wd w) :
    Calls Tryd.prog 5 #[.agg #[.int .u8 (ak : Int), .int .i64 ai, .string az], .agg #[.int .u8 (bk : Int), .int .i64 bi, .string bz]] w fun e w' => e = .returned (.bool true) ∧ Below w.heap.size w w' := by
  obtain ⟨w0, hW⟩ : ∃ w0, w0 = ((w.alloc (.cells #[.int .u8 (ak : Int), .int .i64 ai, .string az] 25)).alloc (.cells #[.int .u8 (bk : Int), .int .i64 bi, .string bz] 25)) := ⟨_, rfl⟩
  have H0 : Hid (Fam w [(w.heap.size + 1, .cells #[.int .u8 (bk : Int), .int .i64 bi, .string bz] 25 (0, 0)), (w.heap.size, .cells #[.int .u8 (ak : Int), .int .i64 ai, .string az] 25 (0, 0))] w0) := Lib.hid (by rw [hW]; exact fam_n2 ..)
  have HW : Hid (∀ x, Below w.heap.size w x → Wd x) := Lib.hid (fun _ h => hw.kept h)
  clear hw
  go_enter Tryd.func5, Tryd.ntmps5
  go_wp2_with fail
  rw [← hW]
  clear hW
  refine (alive_yes _ (HW.out _ H0.out.below)).mono ?_
  rintro e w1 ⟨rfl, hb⟩
  have H1 := Lib.hid (H0.out.kept hb)
  clear hb 
  have f0_0 : w1.cell? ⟨w.heap.size + 1, 0, none⟩ = some (.int .u8 (bk : Int)) := H1.out.cell (b := w.heap.size + 1) (cs := #[.int .u8 (bk : Int), .int .i64 bi, .string bz]) (t := 25) (fr := (0, 0)) (List.mem_cons_self ..) 0
  have f0_1 : w1.cell? ⟨w.heap.size + 1, 1, none⟩ = some (.int .i64 bi) := H1.out.cell (b := w.heap.size + 1) (cs := #[.int .u8 (bk : Int), .int .i64 bi, .string bz]) (t := 25) (fr := (0, 0)) (List.mem_cons_self ..) 1
  have f0_2 : w1.cell? ⟨w.heap.size + 1, 2, none⟩ = some (.string bz) := H1.out.cell (b := w.heap.size + 1) (cs := #[.int .u8 (bk : Int), .int .i64 bi, .string bz]) (t := 25) (fr := (0, 0)) (List.mem_cons_self ..) 2
  have z0 : w.heap.size + 1 < w1.heap.size := lt_of_block (H1.out.get (b := w.heap.size + 1) (o := .cells #[.int .u8 (bk : Int), .int .i64 bi, .string bz] 25 (0, 0)) (List.mem_cons_self ..))
  have f1_0 : w1.cell? ⟨w.heap.size, 0, none⟩ = some (.int .u8 (ak : Int)) := H1.out.cell (b := w.heap.size) (cs := #[.int .u8 (ak : Int), .int .i64 ai, .string az]) (t := 25) (fr := (0, 0)) (List.mem_cons_of_mem _ (List.mem_cons_self ..)) 0
  have f1_1 : w1.cell? ⟨w.heap.size, 1, none⟩ = some (.int .i64 ai) := H1.out.cell (b := w.heap.size) (cs := #[.int .u8 (ak : Int), .int .i64 ai, .string az]) (t := 25) (fr := (0, 0)) (List.mem_cons_of_mem _ (List.mem_cons_self ..)) 1
  have f1_2 : w1.cell? ⟨w.heap.size, 2, none⟩ = some (.string az) := H1.out.cell (b := w.heap.size) (cs := #[.int .u8 (ak : Int), .int .i64 ai, .string az]) (t := 25) (fr := (0, 0)) (List.mem_cons_of_mem _ (List.mem_cons_self ..)) 2
  have z1 : w.heap.size < w1.heap.size := lt_of_block (H1.out.get (b := w.heap.size) (o := .cells #[.int .u8 (ak : Int), .int .i64 ai, .string az] 25 (0, 0)) (List.mem_cons_of_mem _ (List.mem_cons_self ..)))
  go_wp2_with fail
  refine (long2_new _ _ _ _ az bz azb bzb _ false hbig).mono ?_
  rintro e w2 ⟨rfl, hb⟩
  have H2 := Lib.hid (H1.out.kept hb)
  clear f0_0 f0_1 f0_2 z0 f1_0 f1_1 f1_2 z1
  clear hb 
  have f0_0 : w2.cell? ⟨w.heap.size + 1, 0, none⟩ = some (.int .u8 (bk : Int)) := H2.out.cell (b := w.heap.size + 1) (cs := #[.int .u8 (bk : Int), .int .i64 bi, .string bz]) (t := 25) (fr := (0, 0)) (List.mem_cons_self ..) 0
  have f0_1 : w2.cell? ⟨w.heap.size + 1, 1, none⟩ = some (.int .i64 bi) := H2.out.cell (b := w.heap.size + 1) (cs := #[.int .u8 (bk : Int), .int .i64 bi, .string bz]) (t := 25) (fr := (0, 0)) (List.mem_cons_self ..) 1
  have f0_2 : w2.cell? ⟨w.heap.size + 1, 2, none⟩ = some (.string bz) := H2.out.cell (b := w.heap.size + 1) (cs := #[.int .u8 (bk : Int), .int .i64 bi, .string bz]) (t := 25) (fr := (0, 0)) (List.mem_cons_self ..) 2
  have z0 : w.heap.size + 1 < w2.heap.size := lt_of_block (H2.out.get (b := w.heap.size + 1) (o := .cells #[.int .u8 (bk : Int), .int .i64 bi, .string bz] 25 (0, 0)) (List.mem_cons_self ..))
  have f1_0 : w2.cell? ⟨w.heap.size, 0, none⟩ = some (.int .u8 (ak : Int)) := H2.out.cell (b := w.heap.size) (cs := #[.int .u8 (ak : Int), .int .i64 ai, .string az]) (t := 25) (fr := (0, 0)) (List.mem_cons_of_mem _ (List.mem_cons_self ..)) 0
  have f1_1 : w2.cell? ⟨w.heap.size, 1, none⟩ = some (.int .i64 ai) := H2.out.cell (b := w.heap.size) (cs := #[.int .u8 (ak : Int), .int .i64 ai, .string az]) (t := 25) (fr := (0, 0)) (List.mem_cons_of_mem _ (List.mem_cons_self ..)) 1
  have f1_2 : w2.cell? ⟨w.heap.size, 2, none⟩ = some (.string az) := H2.out.cell (b := w.heap.size) (cs := #[.int .u8 (ak : Int), .int .i64 ai, .string az]) (t := 25) (fr := (0, 0)) (List.mem_cons_of_mem _ (List.mem_cons_self ..)) 2
  have z1 : w.heap.size < w2.heap.size := lt_of_block (H2.out.get (b := w.heap.size) (o := .cells #[.int .u8 (ak : Int), .int .i64 ai, .string az] 25 (0, 0)) (List.mem_cons_of_mem _ (List.mem_cons_self ..)))
  go_wp2_with fail
  refine (fine2_new ak ai az akb bk bi bz bkb _ true hfine).mono ?_
  rintro e w3 ⟨rfl, hb⟩
  have H3 := Lib.hid (H2.out.kept hb)
  clear f0_0 f0_1 f0_2 z0 f1_0 f1_1 f1_2 z1
  clear hb 
  have f0_0 : w3.cell? ⟨w.heap.size + 1, 0, none⟩ = some (.int .u8 (bk : Int)) := H3.out.cell (b := w.heap.size + 1) (cs := #[.int .u8 (bk : Int), .int .i64 bi, .string bz]) (t := 25) (fr := (0, 0)) (List.mem_cons_self ..) 0
  have f0_1 : w3.cell? ⟨w.heap.size + 1, 1, none⟩ = some (.int .i64 bi) := H3.out.cell (b := w.heap.size + 1) (cs := #[.int .u8 (bk : Int), .int .i64 bi, .string bz]) (t := 25) (fr := (0, 0)) (List.mem_cons_self ..) 1
  have f0_2 : w3.cell? ⟨w.heap.size + 1, 2, none⟩ = some (.string bz) := H3.out.cell (b := w.heap.size + 1) (cs := #[.int .u8 (bk : Int), .int .i64 bi, .string bz]) (t := 25) (fr := (0, 0)) (List.mem_cons_self ..) 2
  have z0 : w.heap.size + 1 < w3.heap.size := lt_of_block (H3.out.get (b := w.heap.size + 1) (o := .cells #[.int .u8 (bk : Int), .int .i64 bi, .string bz] 25 (0, 0)) (List.mem_cons_self ..))
  have f1_0 : w3.cell? ⟨w.heap.size, 0, none⟩ = some (.int .u8 (ak : Int)) := H3.out.cell (b := w.heap.size) (cs := #[.int .u8 (ak : Int), .int .i64 ai, .string az]) (t := 25) (fr := (0, 0)) (List.mem_cons_of_mem _ (List.mem_cons_self ..)) 0
  have f1_1 : w3.cell? ⟨w.heap.size, 1, none⟩ = some (.int .i64 ai) := H3.out.cell (b := w.heap.size) (cs := #[.int .u8 (ak : Int), .int .i64 ai, .string az]) (t := 25) (fr := (0, 0)) (List.mem_cons_of_mem _ (List.mem_cons_self ..)) 1
  have f1_2 : w3.cell? ⟨w.heap.size, 2, none⟩ = some (.string az) := H3.out.cell (b := w.heap.size) (cs := #[.int .u8 (ak : Int), .int .i64 ai, .string az]) (t := 25) (fr := (0, 0)) (List.mem_cons_of_mem _ (List.mem_cons_self ..)) 2
  have z1 : w.heap.size < w3.heap.size := lt_of_block (H3.out.get (b := w.heap.size) (o := .cells #[.int .u8 (ak : Int), .int .i64 ai, .string az] 25 (0, 0)) (List.mem_cons_of_mem _ (List.mem_cons_self ..)))
  go_wp2_with fail
  have HL := Lib.hid (H3.out.add (below_alloc w3 (.cells #[.int .u8 13, .int .u8 16, .int .u8 15, .int .u8 14, .int .u8 11, .int .u8 12] 36)) (Nat.le_refl _) (heap_alloc_new _ _))
  clear f0_0 f0_1 f0_2 z0 f1_0 f1_1 f1_2 z1
  go_loopw [6] (fun i wr => ∃ k : Nat, k ≤ 3 ∧ i = .int .i64 k ∧ Hid (Fam w [(w3.heap.size, .cells #[.int .u8 13, .int .u8 16, .int .u8 15, .int .u8 14, .int .u8 11, .int .u8 12] 36 (0, 0)), (w.heap.size + 1, .cells #[.int .u8 (bk : Int), .int .i64 bi, .string bz] 25 (0, 0)), (w.heap.size, .cells #[.int .u8 (ak : Int), .int .i64 ai, .string az] 25 (0, 0))] wr)) (fun i _ => 3 - (RowKit.intOf i).toNat)
  case atStart => exact ⟨0, by omega, rfl, HL⟩
  case round =>
    obtain ⟨k, hk, rfl, HK⟩ := hrel
    clear HL
    by_cases hlt : k < 3
    · obtain ⟨op, oq, hcell, hcelq, hop, hoq, hpair⟩ := not_ops k hlt
      obtain ⟨xk, xi, yk, yi, hx, hy, hxy, hyx, xkb, ⟨xi0, xi1⟩, ykb, ⟨yi0, yi1⟩⟩ := not_pair hpair hfa hfb
      have Hhx := Lib.hid hx
      have Hhy := Lib.hid hy
      have Hhxy := Lib.hid hxy
      have Hhyx := Lib.hid hyx
      clear hx hy hxy hyx hpair
      go_wp2_with fail
      have s0 : wr.cell? ⟨w3.heap.size, k * 2, none⟩ = some (.int .u8 (op : Int)) := (HK.out.cell (b := w3.heap.size) (cs := #[.int .u8 13, .int .u8 16, .int .u8 15, .int .u8 14, .int .u8 11, .int .u8 12]) (t := 36) (fr := (0, 0)) (List.mem_cons_self ..) (k * 2)).trans hcell
      have s1 : wr.cell? ⟨w.heap.size + 1, 0, none⟩ = some (.int .u8 (bk : Int)) := HK.out.cell (b := w.heap.size + 1) (cs := #[.int .u8 (bk : Int), .int .i64 bi, .string bz]) (t := 25) (fr := (0, 0)) (List.mem_cons_of_mem _ (List.mem_cons_self ..)) (0)
      have s2 : wr.cell? ⟨w.heap.size + 1, 1, none⟩ = some (.int .i64 bi) := HK.out.cell (b := w.heap.size + 1) (cs := #[.int .u8 (bk : Int), .int .i64 bi, .string bz]) (t := 25) (fr := (0, 0)) (List.mem_cons_of_mem _ (List.mem_cons_self ..)) (1)
      have s3 : wr.cell? ⟨w.heap.size + 1, 2, none⟩ = some (.string bz) := HK.out.cell (b := w.heap.size + 1) (cs := #[.int .u8 (bk : Int), .int .i64 bi, .string bz]) (t := 25) (fr := (0, 0)) (List.mem_cons_of_mem _ (List.mem_cons_self ..)) (2)
      have s4 : wr.cell? ⟨w.heap.size, 0, none⟩ = some (.int .u8 (ak : Int)) := HK.out.cell (b := w.heap.size) (cs := #[.int .u8 (ak : Int), .int .i64 ai, .string az]) (t := 25) (fr := (0, 0)) (List.mem_cons_of_mem _ (List.mem_cons_of_mem _ (List.mem_cons_self ..))) (0)
      have s5 : wr.cell? ⟨w.heap.size, 1, none⟩ = some (.int .i64 ai) := HK.out.cell (b := w.heap.size) (cs := #[.int .u8 (ak : Int), .int .i64 ai, .string az]) (t := 25) (fr := (0, 0)) (List.mem_cons_of_mem _ (List.mem_cons_of_mem _ (List.mem_cons_self ..))) (1)
      have s6 : wr.cell? ⟨w.heap.size, 2, none⟩ = some (.string az) := HK.out.cell (b := w.heap.size) (cs := #[.int .u8 (ak : Int), .int .i64 ai, .string az]) (t := 25) (fr := (0, 0)) (List.mem_cons_of_mem _ (List.mem_cons_of_mem _ (List.mem_cons_self ..))) (2)
      have z0 : w3.heap.size < wr.heap.size := lt_of_block (HK.out.get (b := w3.heap.size) (o := .cells #[.int .u8 13, .int .u8 16, .int .u8 15, .int .u8 14, .int .u8 11, .int .u8 12] 36 (0, 0)) (List.mem_cons_self ..))
      have z1 : w.heap.size + 1 < wr.heap.size := lt_of_block (HK.out.get (b := w.heap.size + 1) (o := .cells #[.int .u8 (bk : Int), .int .i64 bi, .string bz] 25 (0, 0)) (List.mem_cons_of_mem _ (List.mem_cons_self ..)))
      have z2 : w.heap.size < wr.heap.size := lt_of_block (HK.out.get (b := w.heap.size) (o := .cells #[.int .u8 (ak : Int), .int .i64 ai, .string az] 25 (0, 0)) (List.mem_cons_of_mem _ (List.mem_cons_of_mem _ (List.mem_cons_self ..))))
      have HM := HK
      have HL := HK
      apply wp_merge (R := fun b x => Hid (Fam w ((b, .cells #[.int .u8 (xk : Int), .int .i64 xi, .string ⟨#[]⟩] 25 (0, 0)) :: [(w3.heap.size, .cells #[.int .u8 13, .int .u8 16, .int .u8 15, .int .u8 14, .int .u8 11, .int .u8 12] 36 (0, 0)), (w.heap.size + 1, .cells #[.int .u8 (bk : Int), .int .i64 bi, .string bz] 25 (0, 0)), (w.heap.size, .cells #[.int .u8 (ak : Int), .int .i64 ai, .string az] 25 (0, 0))]) x))
      case h =>
        go_region_held3 (fun x => x.cell? ⟨w3.heap.size, k * 2, none⟩ = some (.int .u8 (op : Int)) ∧ x.cell? ⟨w.heap.size + 1, 0, none⟩ = some (.int .u8 (bk : Int)) ∧ x.cell? ⟨w.heap.size + 1, 1, none⟩ = some (.int .i64 bi) ∧ x.cell? ⟨w.heap.size + 1, 2, none⟩ = some (.string bz) ∧ x.cell? ⟨w.heap.size, 0, none⟩ = some (.int .u8 (ak : Int)) ∧ x.cell? ⟨w.heap.size, 1, none⟩ = some (.int .i64 ai) ∧ x.cell? ⟨w.heap.size, 2, none⟩ = some (.string az)) (first | with_reducible exact ⟨s0, s1, s2, s3, s4, s5, s6⟩ | with_reducible exact ⟨keep_drew s0, keep_drew s1, keep_drew s2, keep_drew s3, keep_drew s4, keep_drew s5, keep_drew s6⟩ | with_reducible exact ⟨keep_drew (keep_alloc s0), keep_drew (keep_alloc s1), keep_drew (keep_alloc s2), keep_drew (keep_alloc s3), keep_drew (keep_alloc s4), keep_drew (keep_alloc s5), keep_drew (keep_alloc s6)⟩ | with_reducible exact ⟨keep_alloc (keep_drew s0), keep_alloc (keep_drew s1), keep_alloc (keep_drew s2), keep_alloc (keep_drew s3), keep_alloc (keep_drew s4), keep_alloc (keep_drew s5), keep_alloc (keep_drew s6)⟩ | with_reducible exact SS.out | with_reducible exact ⟨keep_alloc SS.out.1, keep_alloc SS.out.2.1, keep_alloc SS.out.2.2.1, keep_alloc SS.out.2.2.2.1, keep_alloc SS.out.2.2.2.2.1, keep_alloc SS.out.2.2.2.2.2.1, keep_alloc SS.out.2.2.2.2.2.2⟩ | with_reducible exact ⟨(set3_other (by omega) _ _ _ _).trans SS.out.1, (set3_other (by omega) _ _ _ _).trans SS.out.2.1, (set3_other (by omega) _ _ _ _).trans SS.out.2.2.1, (set3_other (by omega) _ _ _ _).trans SS.out.2.2.2.1, (set3_other (by omega) _ _ _ _).trans SS.out.2.2.2.2.1, (set3_other (by omega) _ _ _ _).trans SS.out.2.2.2.2.2.1, (set3_other (by omega) _ _ _ _).trans SS.out.2.2.2.2.2.2⟩) ((first | (go_at_call 8; (first | ((first | refine stepF HM.out (fun hB => two_is op ak ai az bk bi bz xk xi _ 0 hop akb bkb ai0 ai1 bi0 bi1 Hhx.out _ (HW.out _ hB)) ?_ | refine stepF HM.out.drew' (fun hB => two_is op ak ai az bk bi bz xk xi _ 0 hop akb bkb ai0 ai1 bi0 bi1 Hhx.out _ (HW.out _ hB)) ?_); intro u1 HM HL; have t0 : u1.cell? ⟨w3.heap.size, k * 2, none⟩ = some (.int .u8 (op : Int)) := (HL.out.cell (b := w3.heap.size) (cs := #[.int .u8 13, .int .u8 16, .int .u8 15, .int .u8 14, .int .u8 11, .int .u8 12]) (t := 36) (fr := (0, 0)) (List.mem_cons_self ..) (k * 2)).trans hcell; have t1 : u1.cell? ⟨w.heap.size + 1, 0, none⟩ = some (.int .u8 (bk : Int)) := HL.out.cell (b := w.heap.size + 1) (cs := #[.int .u8 (bk : Int), .int .i64 bi, .string bz]) (t := 25) (fr := (0, 0)) (List.mem_cons_of_mem _ (List.mem_cons_self ..)) (0); have t2 : u1.cell? ⟨w.heap.size + 1, 1, none⟩ = some (.int .i64 bi) := HL.out.cell (b := w.heap.size + 1) (cs := #[.int .u8 (bk : Int), .int .i64 bi, .string bz]) (t := 25) (fr := (0, 0)) (List.mem_cons_of_mem _ (List.mem_cons_self ..)) (1); have t3 : u1.cell? ⟨w.heap.size + 1, 2, none⟩ = some (.string bz) := HL.out.cell (b := w.heap.size + 1) (cs := #[.int .u8 (bk : Int), .int .i64 bi, .string bz]) (t := 25) (fr := (0, 0)) (List.mem_cons_of_mem _ (List.mem_cons_self ..)) (2); have t4 : u1.cell? ⟨w.heap.size, 0, none⟩ = some (.int .u8 (ak : Int)) := HL.out.cell (b := w.heap.size) (cs := #[.int .u8 (ak : Int), .int .i64 ai, .string az]) (t := 25) (fr := (0, 0)) (List.mem_cons_of_mem _ (List.mem_cons_of_mem _ (List.mem_cons_self ..))) (0); have t5 : u1.cell? ⟨w.heap.size, 1, none⟩ = some (.int .i64 ai) := HL.out.cell (b := w.heap.size) (cs := #[.int .u8 (ak : Int), .int .i64 ai, .string az]) (t := 25) (fr := (0, 0)) (List.mem_cons_of_mem _ (List.mem_cons_of_mem _ (List.mem_cons_self ..))) (1); have t6 : u1.cell? ⟨w.heap.size, 2, none⟩ = some (.string az) := HL.out.cell (b := w.heap.size) (cs := #[.int .u8 (ak : Int), .int .i64 ai, .string az]) (t := 25) (fr := (0, 0)) (List.mem_cons_of_mem _ (List.mem_cons_of_mem _ (List.mem_cons_self ..))) (2); have SS := Lib.hid (show _ from (And.intro t0 (And.intro t1 (And.intro t2 (And.intro t3 (And.intro t4 (And.intro t5 t6))))))); clear t0 t1 t2 t3 t4 t5 t6; have z0 : w3.heap.size < u1.heap.size := lt_of_block (HL.out.get (b := w3.heap.size) (o := .cells #[.int .u8 13, .int .u8 16, .int .u8 15, .int .u8 14, .int .u8 11, .int .u8 12] 36 (0, 0)) (List.mem_cons_self ..)); have z1 : w.heap.size + 1 < u1.heap.size := lt_of_block (HL.out.get (b := w.heap.size + 1) (o := .cells #[.int .u8 (bk : Int), .int .i64 bi, .string bz] 25 (0, 0)) (List.mem_cons_of_mem _ (List.mem_cons_self ..))); have z2 : w.heap.size < u1.heap.size := lt_of_block (HL.out.get (b := w.heap.size) (o := .cells #[.int .u8 (ak : Int), .int .i64 ai, .string az] 25 (0, 0)) (List.mem_cons_of_mem _ (List.mem_cons_of_mem _ (List.mem_cons_self ..))))) | ((first | refine stepZ HM.out (fun hB => two_is op ak ai az bk bi bz xk xi _ 0 hop akb bkb ai0 ai1 bi0 bi1 Hhx.out _ (HW.out _ hB)) ?_ | refine stepZ HM.out.zero (fun hB => two_is op ak ai az bk bi bz xk xi _ 0 hop akb bkb ai0 ai1 bi0 bi1 Hhx.out _ (HW.out _ hB)) ?_ | refine stepZ HM.out.zero.drew' (fun hB => two_is op ak ai az bk bi bz xk xi _ 0 hop akb bkb ai0 ai1 bi0 bi1 Hhx.out _ (HW.out _ hB)) ?_ | refine stepZ HM.out.drew'.zero (fun hB => two_is op ak ai az bk bi bz xk xi _ 0 hop akb bkb ai0 ai1 bi0 bi1 Hhx.out _ (HW.out _ hB)) ?_ | refine stepZ HM.out.drew' (fun hB => two_is op ak ai az bk bi bz xk xi _ 0 hop akb bkb ai0 ai1 bi0 bi1 Hhx.out _ (HW.out _ hB)) ?_); intro u1 HM HL; have t0 : u1.cell? ⟨w3.heap.size, k * 2, none⟩ = some (.int .u8 (op : Int)) := (HL.out.cell (b := w3.heap.size) (cs := #[.int .u8 13, .int .u8 16, .int .u8 15, .int .u8 14, .int .u8 11, .int .u8 12]) (t := 36) (fr := (0, 0)) (List.mem_cons_self ..) (k * 2)).trans hcell; have t1 : u1.cell? ⟨w.heap.size + 1, 0, none⟩ = some (.int .u8 (bk : Int)) := HL.out.cell (b := w.heap.size + 1) (cs := #[.int .u8 (bk : Int), .int .i64 bi, .string bz]) (t := 25) (fr := (0, 0)) (List.mem_cons_of_mem _ (List.mem_cons_self ..)) (0); have t2 : u1.cell? ⟨w.heap.size + 1, 1, none⟩ = some (.int .i64 bi) := HL.out.cell (b := w.heap.size + 1) (cs := #[.int .u8 (bk : Int), .int .i64 bi, .string bz]) (t := 25) (fr := (0, 0)) (List.mem_cons_of_mem _ (List.mem_cons_self ..)) (1); have t3 : u1.cell? ⟨w.heap.size + 1, 2, none⟩ = some (.string bz) := HL.out.cell (b := w.heap.size + 1) (cs := #[.int .u8 (bk : Int), .int .i64 bi, .string bz]) (t := 25) (fr := (0, 0)) (List.mem_cons_of_mem _ (List.mem_cons_self ..)) (2); have t4 : u1.cell? ⟨w.heap.size, 0, none⟩ = some (.int .u8 (ak : Int)) := HL.out.cell (b := w.heap.size) (cs := #[.int .u8 (ak : Int), .int .i64 ai, .string az]) (t := 25) (fr := (0, 0)) (List.mem_cons_of_mem _ (List.mem_cons_of_mem _ (List.mem_cons_self ..))) (0); have t5 : u1.cell? ⟨w.heap.size, 1, none⟩ = some (.int .i64 ai) := HL.out.cell (b := w.heap.size) (cs := #[.int .u8 (ak : Int), .int .i64 ai, .string az]) (t := 25) (fr := (0, 0)) (List.mem_cons_of_mem _ (List.mem_cons_of_mem _ (List.mem_cons_self ..))) (1); have t6 : u1.cell? ⟨w.heap.size, 2, none⟩ = some (.string az) := HL.out.cell (b := w.heap.size) (cs := #[.int .u8 (ak : Int), .int .i64 ai, .string az]) (t := 25) (fr := (0, 0)) (List.mem_cons_of_mem _ (List.mem_cons_of_mem _ (List.mem_cons_self ..))) (2); have SS := Lib.hid (show _ from (And.intro t0 (And.intro t1 (And.intro t2 (And.intro t3 (And.intro t4 (And.intro t5 t6))))))); clear t0 t1 t2 t3 t4 t5 t6; have z0 : w3.heap.size < u1.heap.size := lt_of_block (HL.out.get (b := w3.heap.size) (o := .cells #[.int .u8 13, .int .u8 16, .int .u8 15, .int .u8 14, .int .u8 11, .int .u8 12] 36 (0, 0)) (List.mem_cons_self ..)); have z1 : w.heap.size + 1 < u1.heap.size := lt_of_block (HL.out.get (b := w.heap.size + 1) (o := .cells #[.int .u8 (bk : Int), .int .i64 bi, .string bz] 25 (0, 0)) (List.mem_cons_of_mem _ (List.mem_cons_self ..))); have z2 : w.heap.size < u1.heap.size := lt_of_block (HL.out.get (b := w.heap.size) (o := .cells #[.int .u8 (ak : Int), .int .i64 ai, .string az] 25 (0, 0)) (List.mem_cons_of_mem _ (List.mem_cons_of_mem _ (List.mem_cons_self ..)))); have r0 : u1.cell? ⟨_, 0, none⟩ = some (.int .u8 0) := HM.out.cell 0; have r1 : u1.cell? ⟨_, 1, none⟩ = some (.int .i64 0) := HM.out.cell 1; have r2 : u1.cell? ⟨_, 2, none⟩ = some (.string ⟨#[]⟩) := HM.out.cell 2; have f0 : u1.frozen? ⟨_, 0, none⟩ = false := HM.out.free 0; have f1 : u1.frozen? ⟨_, 1, none⟩ = false := HM.out.free 1; have f2 : u1.frozen? ⟨_, 2, none⟩ = false := HM.out.free 2; have z9 : _ < u1.heap.size := lt_of_block HM.out.new)))))
        all_goals (first | (obtain ⟨bx, hx, HO⟩ := endF (.cells #[.int .u8 (xk : Int), .int .i64 xi, .string ⟨#[]⟩] 25 (0, 0)) HM.out; refine ⟨rfl, ?_⟩; (try rw [← hx] at HO); rw [← hx]; exact ⟨bx, rfl, HO⟩) | (obtain ⟨bx, hx, HO⟩ := endZ (.int .u8 (xk : Int)) (.int .i64 xi) (.string ⟨#[]⟩) HM.out; refine ⟨rfl, ?_⟩; (try rw [← hx] at HO); rw [← hx]; exact ⟨bx, rfl, HO⟩))
      intro bx v1 HX
      clear HM HL s0 s1 s2 s3 s4 s5 s6 z0 z1 z2
      go_wp2_with fail
      have s0 : v1.cell? ⟨w3.heap.size, k * 2 + 1, none⟩ = some (.int .u8 (oq : Int)) := (HX.out.cell (b := w3.heap.size) (cs := #[.int .u8 13, .int .u8 16, .int .u8 15, .int .u8 14, .int .u8 11, .int .u8 12]) (t := 36) (fr := (0, 0)) (List.mem_cons_of_mem _ (List.mem_cons_self ..)) (k * 2 + 1)).trans hcelq
      have s1 : v1.cell? ⟨w.heap.size + 1, 0, none⟩ = some (.int .u8 (bk : Int)) := HX.out.cell (b := w.heap.size + 1) (cs := #[.int .u8 (bk : Int), .int .i64 bi, .string bz]) (t := 25) (fr := (0, 0)) (List.mem_cons_of_mem _ (List.mem_cons_of_mem _ (List.mem_cons_self ..))) (0)
      have s2 : v1.cell? ⟨w.heap.size + 1, 1, none⟩ = some (.int .i64 bi) := HX.out.cell (b := w.heap.size + 1) (cs := #[.int .u8 (bk : Int), .int .i64 bi, .string bz]) (t := 25) (fr := (0, 0)) (List.mem_cons_of_mem _ (List.mem_cons_of_mem _ (List.mem_cons_self ..))) (1)
      have s3 : v1.cell? ⟨w.heap.size + 1, 2, none⟩ = some (.string bz) := HX.out.cell (b := w.heap.size + 1) (cs := #[.int .u8 (bk : Int), .int .i64 bi, .string bz]) (t := 25) (fr := (0, 0)) (List.mem_cons_of_mem _ (List.mem_cons_of_mem _ (List.mem_cons_self ..))) (2)
      have s4 : v1.cell? ⟨w.heap.size, 0, none⟩ = some (.int .u8 (ak : Int)) := HX.out.cell (b := w.heap.size) (cs := #[.int .u8 (ak : Int), .int .i64 ai, .string az]) (t := 25) (fr := (0, 0)) (List.mem_cons_of_mem _ (List.mem_cons_of_mem _ (List.mem_cons_of_mem _ (List.mem_cons_self ..)))) (0)
      have s5 : v1.cell? ⟨w.heap.size, 1, none⟩ = some (.int .i64 ai) := HX.out.cell (b := w.heap.size) (cs := #[.int .u8 (ak : Int), .int .i64 ai, .string az]) (t := 25) (fr := (0, 0)) (List.mem_cons_of_mem _ (List.mem_cons_of_mem _ (List.mem_cons_of_mem _ (List.mem_cons_self ..)))) (1)
      have s6 : v1.cell? ⟨w.heap.size, 2, none⟩ = some (.string az) := HX.out.cell (b := w.heap.size) (cs := #[.int .u8 (ak : Int), .int .i64 ai, .string az]) (t := 25) (fr := (0, 0)) (List.mem_cons_of_mem _ (List.mem_cons_of_mem _ (List.mem_cons_of_mem _ (List.mem_cons_self ..)))) (2)
      have z0 : bx < v1.heap.size := lt_of_block (HX.out.get (b := bx) (o := .cells #[.int .u8 (xk : Int), .int .i64 xi, .string ⟨#[]⟩] 25 (0, 0)) (List.mem_cons_self ..))
      have z1 : w3.heap.size < v1.heap.size := lt_of_block (HX.out.get (b := w3.heap.size) (o := .cells #[.int .u8 13, .int .u8 16, .int .u8 15, .int .u8 14, .int .u8 11, .int .u8 12] 36 (0, 0)) (List.mem_cons_of_mem _ (List.mem_cons_self ..)))
      have z2 : w.heap.size + 1 < v1.heap.size := lt_of_block (HX.out.get (b := w.heap.size + 1) (o := .cells #[.int .u8 (bk : Int), .int .i64 bi, .string bz] 25 (0, 0)) (List.mem_cons_of_mem _ (List.mem_cons_of_mem _ (List.mem_cons_self ..))))
      have z3 : w.heap.size < v1.heap.size := lt_of_block (HX.out.get (b := w.heap.size) (o := .cells #[.int .u8 (ak : Int), .int .i64 ai, .string az] 25 (0, 0)) (List.mem_cons_of_mem _ (List.mem_cons_of_mem _ (List.mem_cons_of_mem _ (List.mem_cons_self ..)))))
      have HM := HX
      have HL := HX
      apply wp_merge (R := fun b x => Hid (Fam w ((b, .cells #[.int .u8 (yk : Int), .int .i64 yi, .string ⟨#[]⟩] 25 (0, 0)) :: [(bx, .cells #[.int .u8 (xk : Int), .int .i64 xi, .string ⟨#[]⟩] 25 (0, 0)), (w3.heap.size, .cells #[.int .u8 13, .int .u8 16, .int .u8 15, .int .u8 14, .int .u8 11, .int .u8 12] 36 (0, 0)), (w.heap.size + 1, .cells #[.int .u8 (bk : Int), .int .i64 bi, .string bz] 25 (0, 0)), (w.heap.size, .cells #[.int .u8 (ak : Int), .int .i64 ai, .string az] 25 (0, 0))]) x))
      case h =>
        go_region_held3 (fun x => x.cell? ⟨w3.heap.size, k * 2 + 1, none⟩ = some (.int .u8 (oq : Int)) ∧ x.cell? ⟨w.heap.size + 1, 0, none⟩ = some (.int .u8 (bk : Int)) ∧ x.cell? ⟨w.heap.size + 1, 1, none⟩ = some (.int .i64 bi) ∧ x.cell? ⟨w.heap.size + 1, 2, none⟩ = some (.string bz) ∧ x.cell? ⟨w.heap.size, 0, none⟩ = some (.int .u8 (ak : Int)) ∧ x.cell? ⟨w.heap.size, 1, none⟩ = some (.int .i64 ai) ∧ x.cell? ⟨w.heap.size, 2, none⟩ = some (.string az)) (first | with_reducible exact ⟨s0, s1, s2, s3, s4, s5, s6⟩ | with_reducible exact ⟨keep_drew s0, keep_drew s1, keep_drew s2, keep_drew s3, keep_drew s4, keep_drew s5, keep_drew s6⟩ | with_reducible exact ⟨keep_drew (keep_alloc s0), keep_drew (keep_alloc s1), keep_drew (keep_alloc s2), keep_drew (keep_alloc s3), keep_drew (keep_alloc s4), keep_drew (keep_alloc s5), keep_drew (keep_alloc s6)⟩ | with_reducible exact ⟨keep_alloc (keep_drew s0), keep_alloc (keep_drew s1), keep_alloc (keep_drew s2), keep_alloc (keep_drew s3), keep_alloc (keep_drew s4), keep_alloc (keep_drew s5), keep_alloc (keep_drew s6)⟩ | with_reducible exact SS.out | with_reducible exact ⟨keep_alloc SS.out.1, keep_alloc SS.out.2.1, keep_alloc SS.out.2.2.1, keep_alloc SS.out.2.2.2.1, keep_alloc SS.out.2.2.2.2.1, keep_alloc SS.out.2.2.2.2.2.1, keep_alloc SS.out.2.2.2.2.2.2⟩ | with_reducible exact ⟨(set3_other (by omega) _ _ _ _).trans SS.out.1, (set3_other (by omega) _ _ _ _).trans SS.out.2.1, (set3_other (by omega) _ _ _ _).trans SS.out.2.2.1, (set3_other (by omega) _ _ _ _).trans SS.out.2.2.2.1, (set3_other (by omega) _ _ _ _).trans SS.out.2.2.2.2.1, (set3_other (by omega) _ _ _ _).trans SS.out.2.2.2.2.2.1, (set3_other (by omega) _ _ _ _).trans SS.out.2.2.2.2.2.2⟩) ((first | (go_at_call 8; (first | ((first | refine stepF HM.out (fun hB => two_is oq ak ai az bk bi bz yk yi _ 0 hoq akb bkb ai0 ai1 bi0 bi1 Hhy.out _ (HW.out _ hB)) ?_ | refine stepF HM.out.drew' (fun hB => two_is oq ak ai az bk bi bz yk yi _ 0 hoq akb bkb ai0 ai1 bi0 bi1 Hhy.out _ (HW.out _ hB)) ?_); intro u1 HM HL; have t0 : u1.cell? ⟨w3.heap.size, k * 2 + 1, none⟩ = some (.int .u8 (oq : Int)) := (HL.out.cell (b := w3.heap.size) (cs := #[.int .u8 13, .int .u8 16, .int .u8 15, .int .u8 14, .int .u8 11, .int .u8 12]) (t := 36) (fr := (0, 0)) (List.mem_cons_of_mem _ (List.mem_cons_self ..)) (k * 2 + 1)).trans hcelq; have t1 : u1.cell? ⟨w.heap.size + 1, 0, none⟩ = some (.int .u8 (bk : Int)) := HL.out.cell (b := w.heap.size + 1) (cs := #[.int .u8 (bk : Int), .int .i64 bi, .string bz]) (t := 25) (fr := (0, 0)) (List.mem_cons_of_mem _ (List.mem_cons_of_mem _ (List.mem_cons_self ..))) (0); have t2 : u1.cell? ⟨w.heap.size + 1, 1, none⟩ = some (.int .i64 bi) := HL.out.cell (b := w.heap.size + 1) (cs := #[.int .u8 (bk : Int), .int .i64 bi, .string bz]) (t := 25) (fr := (0, 0)) (List.mem_cons_of_mem _ (List.mem_cons_of_mem _ (List.mem_cons_self ..))) (1); have t3 : u1.cell? ⟨w.heap.size + 1, 2, none⟩ = some (.string bz) := HL.out.cell (b := w.heap.size + 1) (cs := #[.int .u8 (bk : Int), .int .i64 bi, .string bz]) (t := 25) (fr := (0, 0)) (List.mem_cons_of_mem _ (List.mem_cons_of_mem _ (List.mem_cons_self ..))) (2); have t4 : u1.cell? ⟨w.heap.size, 0, none⟩ = some (.int .u8 (ak : Int)) := HL.out.cell (b := w.heap.size) (cs := #[.int .u8 (ak : Int), .int .i64 ai, .string az]) (t := 25) (fr := (0, 0)) (List.mem_cons_of_mem _ (List.mem_cons_of_mem _ (List.mem_cons_of_mem _ (List.mem_cons_self ..)))) (0); have t5 : u1.cell? ⟨w.heap.size, 1, none⟩ = some (.int .i64 ai) := HL.out.cell (b := w.heap.size) (cs := #[.int .u8 (ak : Int), .int .i64 ai, .string az]) (t := 25) (fr := (0, 0)) (List.mem_cons_of_mem _ (List.mem_cons_of_mem _ (List.mem_cons_of_mem _ (List.mem_cons_self ..)))) (1); have t6 : u1.cell? ⟨w.heap.size, 2, none⟩ = some (.string az) := HL.out.cell (b := w.heap.size) (cs := #[.int .u8 (ak : Int), .int .i64 ai, .string az]) (t := 25) (fr := (0, 0)) (List.mem_cons_of_mem _ (List.mem_cons_of_mem _ (List.mem_cons_of_mem _ (List.mem_cons_self ..)))) (2); have SS := Lib.hid (show _ from (And.intro t0 (And.intro t1 (And.intro t2 (And.intro t3 (And.intro t4 (And.intro t5 t6))))))); clear t0 t1 t2 t3 t4 t5 t6; have z0 : bx < u1.heap.size := lt_of_block (HL.out.get (b := bx) (o := .cells #[.int .u8 (xk : Int), .int .i64 xi, .string ⟨#[]⟩] 25 (0, 0)) (List.mem_cons_self ..)); have z1 : w3.heap.size < u1.heap.size := lt_of_block (HL.out.get (b := w3.heap.size) (o := .cells #[.int .u8 13, .int .u8 16, .int .u8 15, .int .u8 14, .int .u8 11, .int .u8 12] 36 (0, 0)) (List.mem_cons_of_mem _ (List.mem_cons_self ..))); have z2 : w.heap.size + 1 < u1.heap.size := lt_of_block (HL.out.get (b := w.heap.size + 1) (o := .cells #[.int .u8 (bk : Int), .int .i64 bi, .string bz] 25 (0, 0)) (List.mem_cons_of_mem _ (List.mem_cons_of_mem _ (List.mem_cons_self ..)))); have z3 : w.heap.size < u1.heap.size := lt_of_block (HL.out.get (b := w.heap.size) (o := .cells #[.int .u8 (ak : Int), .int .i64 ai, .string az] 25 (0, 0)) (List.mem_cons_of_mem _ (List.mem_cons_of_mem _ (List.mem_cons_of_mem _ (List.mem_cons_self ..)))))) | ((first | refine stepZ HM.out (fun hB => two_is oq ak ai az bk bi bz yk yi _ 0 hoq akb bkb ai0 ai1 bi0 bi1 Hhy.out _ (HW.out _ hB)) ?_ | refine stepZ HM.out.zero (fun hB => two_is oq ak ai az bk bi bz yk yi _ 0 hoq akb bkb ai0 ai1 bi0 bi1 Hhy.out _ (HW.out _ hB)) ?_ | refine stepZ HM.out.zero.drew' (fun hB => two_is oq ak ai az bk bi bz yk yi _ 0 hoq akb bkb ai0 ai1 bi0 bi1 Hhy.out _ (HW.out _ hB)) ?_ | refine stepZ HM.out.drew'.zero (fun hB => two_is oq ak ai az bk bi bz yk yi _ 0 hoq akb bkb ai0 ai1 bi0 bi1 Hhy.out _ (HW.out _ hB)) ?_ | refine stepZ HM.out.drew' (fun hB => two_is oq ak ai az bk bi bz yk yi _ 0 hoq akb bkb ai0 ai1 bi0 bi1 Hhy.out _ (HW.out _ hB)) ?_); intro u1 HM HL; have t0 : u1.cell? ⟨w3.heap.size, k * 2 + 1, none⟩ = some (.int .u8 (oq : Int)) := (HL.out.cell (b := w3.heap.size) (cs := #[.int .u8 13, .int .u8 16, .int .u8 15, .int .u8 14, .int .u8 11, .int .u8 12]) (t := 36) (fr := (0, 0)) (List.mem_cons_of_mem _ (List.mem_cons_self ..)) (k * 2 + 1)).trans hcelq; have t1 : u1.cell? ⟨w.heap.size + 1, 0, none⟩ = some (.int .u8 (bk : Int)) := HL.out.cell (b := w.heap.size + 1) (cs := #[.int .u8 (bk : Int), .int .i64 bi, .string bz]) (t := 25) (fr := (0, 0)) (List.mem_cons_of_mem _ (List.mem_cons_of_mem _ (List.mem_cons_self ..))) (0); have t2 : u1.cell? ⟨w.heap.size + 1, 1, none⟩ = some (.int .i64 bi) := HL.out.cell (b := w.heap.size + 1) (cs := #[.int .u8 (bk : Int), .int .i64 bi, .string bz]) (t := 25) (fr := (0, 0)) (List.mem_cons_of_mem _ (List.mem_cons_of_mem _ (List.mem_cons_self ..))) (1); have t3 : u1.cell? ⟨w.heap.size + 1, 2, none⟩ = some (.string bz) := HL.out.cell (b := w.heap.size + 1) (cs := #[.int .u8 (bk : Int), .int .i64 bi, .string bz]) (t := 25) (fr := (0, 0)) (List.mem_cons_of_mem _ (List.mem_cons_of_mem _ (List.mem_cons_self ..))) (2); have t4 : u1.cell? ⟨w.heap.size, 0, none⟩ = some (.int .u8 (ak : Int)) := HL.out.cell (b := w.heap.size) (cs := #[.int .u8 (ak : Int), .int .i64 ai, .string az]) (t := 25) (fr := (0, 0)) (List.mem_cons_of_mem _ (List.mem_cons_of_mem _ (List.mem_cons_of_mem _ (List.mem_cons_self ..)))) (0); have t5 : u1.cell? ⟨w.heap.size, 1, none⟩ = some (.int .i64 ai) := HL.out.cell (b := w.heap.size) (cs := #[.int .u8 (ak : Int), .int .i64 ai, .string az]) (t := 25) (fr := (0, 0)) (List.mem_cons_of_mem _ (List.mem_cons_of_mem _ (List.mem_cons_of_mem _ (List.mem_cons_self ..)))) (1); have t6 : u1.cell? ⟨w.heap.size, 2, none⟩ = some (.string az) := HL.out.cell (b := w.heap.size) (cs := #[.int .u8 (ak : Int), .int .i64 ai, .string az]) (t := 25) (fr := (0, 0)) (List.mem_cons_of_mem _ (List.mem_cons_of_mem _ (List.mem_cons_of_mem _ (List.mem_cons_self ..)))) (2); have SS := Lib.hid (show _ from (And.intro t0 (And.intro t1 (And.intro t2 (And.intro t3 (And.intro t4 (And.intro t5 t6))))))); clear t0 t1 t2 t3 t4 t5 t6; have z0 : bx < u1.heap.size := lt_of_block (HL.out.get (b := bx) (o := .cells #[.int .u8 (xk : Int), .int .i64 xi, .string ⟨#[]⟩] 25 (0, 0)) (List.mem_cons_self ..)); have z1 : w3.heap.size < u1.heap.size := lt_of_block (HL.out.get (b := w3.heap.size) (o := .cells #[.int .u8 13, .int .u8 16, .int .u8 15, .int .u8 14, .int .u8 11, .int .u8 12] 36 (0, 0)) (List.mem_cons_of_mem _ (List.mem_cons_self ..))); have z2 : w.heap.size + 1 < u1.heap.size := lt_of_block (HL.out.get (b := w.heap.size + 1) (o := .cells #[.int .u8 (bk : Int), .int .i64 bi, .string bz] 25 (0, 0)) (List.mem_cons_of_mem _ (List.mem_cons_of_mem _ (List.mem_cons_self ..)))); have z3 : w.heap.size < u1.heap.size := lt_of_block (HL.out.get (b := w.heap.size) (o := .cells #[.int .u8 (ak : Int), .int .i64 ai, .string az] 25 (0, 0)) (List.mem_cons_of_mem _ (List.mem_cons_of_mem _ (List.mem_cons_of_mem _ (List.mem_cons_self ..))))); have r0 : u1.cell? ⟨_, 0, none⟩ = some (.int .u8 0) := HM.out.cell 0; have r1 : u1.cell? ⟨_, 1, none⟩ = some (.int .i64 0) := HM.out.cell 1; have r2 : u1.cell? ⟨_, 2, none⟩ = some (.string ⟨#[]⟩) := HM.out.cell 2; have f0 : u1.frozen? ⟨_, 0, none⟩ = false := HM.out.free 0; have f1 : u1.frozen? ⟨_, 1, none⟩ = false := HM.out.free 1; have f2 : u1.frozen? ⟨_, 2, none⟩ = false := HM.out.free 2; have z9 : _ < u1.heap.size := lt_of_block HM.out.new)))))
        all_goals (first | (obtain ⟨bx, hx, HO⟩ := endF (.cells #[.int .u8 (yk : Int), .int .i64 yi, .string ⟨#[]⟩] 25 (0, 0)) HM.out; refine ⟨rfl, ?_⟩; (try rw [← hx] at HO); rw [← hx]; exact ⟨bx, rfl, HO⟩) | (obtain ⟨bx, hx, HO⟩ := endZ (.int .u8 (yk : Int)) (.int .i64 yi) (.string ⟨#[]⟩) HM.out; refine ⟨rfl, ?_⟩; (try rw [← hx] at HO); rw [← hx]; exact ⟨bx, rfl, HO⟩))
      intro by_ v2 HY
      clear HM HL s0 s1 s2 s3 s4 s5 s6 z0 z1 z2 z3
      clear HX
      go_wp2_with fail
      have p0 : v2.cell? ⟨by_, 0, none⟩ = some (.int .u8 (yk : Int)) := HY.out.cell (b := by_) (cs := #[.int .u8 (yk : Int), .int .i64 yi, .string ⟨#[]⟩]) (t := 25) (fr := (0, 0)) (List.mem_cons_self ..) (0)
      have p1 : v2.cell? ⟨by_, 1, none⟩ = some (.int .i64 yi) := HY.out.cell (b := by_) (cs := #[.int .u8 (yk : Int), .int .i64 yi, .string ⟨#[]⟩]) (t := 25) (fr := (0, 0)) (List.mem_cons_self ..) (1)
      have p2 : v2.cell? ⟨by_, 2, none⟩ = some (.string ⟨#[]⟩) := HY.out.cell (b := by_) (cs := #[.int .u8 (yk : Int), .int .i64 yi, .string ⟨#[]⟩]) (t := 25) (fr := (0, 0)) (List.mem_cons_self ..) (2)
      have p3 : v2.cell? ⟨bx, 0, none⟩ = some (.int .u8 (xk : Int)) := HY.out.cell (b := bx) (cs := #[.int .u8 (xk : Int), .int .i64 xi, .string ⟨#[]⟩]) (t := 25) (fr := (0, 0)) (List.mem_cons_of_mem _ (List.mem_cons_self ..)) (0)
      have p4 : v2.cell? ⟨bx, 1, none⟩ = some (.int .i64 xi) := HY.out.cell (b := bx) (cs := #[.int .u8 (xk : Int), .int .i64 xi, .string ⟨#[]⟩]) (t := 25) (fr := (0, 0)) (List.mem_cons_of_mem _ (List.mem_cons_self ..)) (1)
      have p5 : v2.cell? ⟨bx, 2, none⟩ = some (.string ⟨#[]⟩) := HY.out.cell (b := bx) (cs := #[.int .u8 (xk : Int), .int .i64 xi, .string ⟨#[]⟩]) (t := 25) (fr := (0, 0)) (List.mem_cons_of_mem _ (List.mem_cons_self ..)) (2)
      have q0 := bwOf_cell v2 _ _ p0
      have q1 := bwOf_cell v2 _ _ p1
      have q2 := bwOf_cell v2 _ _ p2
      have q3 := bwOf_cell v2 _ _ p3
      have q4 := bwOf_cell v2 _ _ p4
      have q5 := bwOf_cell v2 _ _ p5
      clear p0 p1 p2 p3 p4 p5
      refine wp_region_bw (w := v2) (by kernel_rfl) (by kernel_rfl) ?_
      repeat (go_big_quiet_step (fail))
      go_big_quiet_step ((go_at_call 14; exact below_of (turned_is xk xi _ yk yi _ xkb xi0 xi1 Hhxy.out _)))
      repeat (go_big_quiet_step (fail))
      go_big_quiet_step ((go_at_call 14; exact below_of (turned_is yk yi _ xk xi _ ykb yi0 yi1 Hhyx.out _)))
      repeat (go_big_quiet_step (fail))
      refine wpQuiet_nil ?_
      rintro v3 ⟨m, rfl⟩
      have HZ := Lib.hid (HY.out.kept (bwOf_below v2 m))
      clear q0 q1 q2 q3 q4 q5
      generalize bwOf v2 m = v3 at *
      have HZ2 := Lib.hid HZ.out.tail.tail
      go_wp2
      go_roundw
      case rel => exact ⟨k + 1, by omega, by go_num, HZ2⟩
      case measure => simp [RowKit.intOf]; omega
    · obtain rfl : k = 3 := by omega
      obtain ⟨w4, hw4⟩ : ∃ w4, w4 = wr := ⟨_, rfl⟩
      subst hw4
      have H4 := Lib.hid HK.out.tail
      clear HK
      by_cases ha : ak = 2
      · have A2 : ((ak : Int) == 2) = true := by subst ha; rfl
        have K17 : Hid (Val.two 17 ⟨ak, ai, az⟩ ⟨bk, bi, bz⟩ = (⟨0, 0, ⟨#[]⟩⟩, 11)) := Lib.hid (by rw [fine_two (by rw [hfa, hfb]; simp)]; unfold Val.two0; rw [if_pos (by omega)]; unfold Val.both; rw [if_pos (by simp [ha])]; rfl)
        have K18 : Hid (Val.two 18 ⟨ak, ai, az⟩ ⟨bk, bi, bz⟩ = (⟨0, 0, ⟨#[]⟩⟩, 11)) := Lib.hid (by rw [fine_two (by rw [hfa, hfb]; simp)]; unfold Val.two0; rw [if_pos (by omega)]; unfold Val.both; rw [if_pos (by simp [ha])]; rfl)
        clear ha
        have f0_0 : w4.cell? ⟨w.heap.size + 1, 0, none⟩ = some (.int .u8 (bk : Int)) := H4.out.cell (b := w.heap.size + 1) (cs := #[.int .u8 (bk : Int), .int .i64 bi, .string bz]) (t := 25) (fr := (0, 0)) (List.mem_cons_self ..) 0
        have f0_1 : w4.cell? ⟨w.heap.size + 1, 1, none⟩ = some (.int .i64 bi) := H4.out.cell (b := w.heap.size + 1) (cs := #[.int .u8 (bk : Int), .int .i64 bi, .string bz]) (t := 25) (fr := (0, 0)) (List.mem_cons_self ..) 1
        have f0_2 : w4.cell? ⟨w.heap.size + 1, 2, none⟩ = some (.string bz) := H4.out.cell (b := w.heap.size + 1) (cs := #[.int .u8 (bk : Int), .int .i64 bi, .string bz]) (t := 25) (fr := (0, 0)) (List.mem_cons_self ..) 2
        have z0 : w.heap.size + 1 < w4.heap.size := lt_of_block (H4.out.get (b := w.heap.size + 1) (o := .cells #[.int .u8 (bk : Int), .int .i64 bi, .string bz] 25 (0, 0)) (List.mem_cons_self ..))
        have f1_0 : w4.cell? ⟨w.heap.size, 0, none⟩ = some (.int .u8 (ak : Int)) := H4.out.cell (b := w.heap.size) (cs := #[.int .u8 (ak : Int), .int .i64 ai, .string az]) (t := 25) (fr := (0, 0)) (List.mem_cons_of_mem _ (List.mem_cons_self ..)) 0
        have f1_1 : w4.cell? ⟨w.heap.size, 1, none⟩ = some (.int .i64 ai) := H4.out.cell (b := w.heap.size) (cs := #[.int .u8 (ak : Int), .int .i64 ai, .string az]) (t := 25) (fr := (0, 0)) (List.mem_cons_of_mem _ (List.mem_cons_self ..)) 1
        have f1_2 : w4.cell? ⟨w.heap.size, 2, none⟩ = some (.string az) := H4.out.cell (b := w.heap.size) (cs := #[.int .u8 (ak : Int), .int .i64 ai, .string az]) (t := 25) (fr := (0, 0)) (List.mem_cons_of_mem _ (List.mem_cons_self ..)) 2
        have z1 : w.heap.size < w4.heap.size := lt_of_block (H4.out.get (b := w.heap.size) (o := .cells #[.int .u8 (ak : Int), .int .i64 ai, .string az] 25 (0, 0)) (List.mem_cons_of_mem _ (List.mem_cons_self ..)))
        go_wp2_with fail
        refine (two_yes 17 ak ai az bk bi bz 0 0 ⟨#[]⟩ 11 (by omega) akb bkb ai0 ai1 bi0 bi1 K17.out _ (HW.out _ H4.out.below)).mono ?_
        rintro e w5 ⟨rfl, hb⟩
        have H5 := Lib.hid (H4.out.kept hb)
        clear f0_0 f0_1 f0_2 z0 f1_0 f1_1 f1_2 z1
        clear hb 
        have f0_0 : w5.cell? ⟨w.heap.size + 1, 0, none⟩ = some (.int .u8 (bk : Int)) := H5.out.cell (b := w.heap.size + 1) (cs := #[.int .u8 (bk : Int), .int .i64 bi, .string bz]) (t := 25) (fr := (0, 0)) (List.mem_cons_self ..) 0
        have f0_1 : w5.cell? ⟨w.heap.size + 1, 1, none⟩ = some (.int .i64 bi) := H5.out.cell (b := w.heap.size + 1) (cs := #[.int .u8 (bk : Int), .int .i64 bi, .string bz]) (t := 25) (fr := (0, 0)) (List.mem_cons_self ..) 1
        have f0_2 : w5.cell? ⟨w.heap.size + 1, 2, none⟩ = some (.string bz) := H5.out.cell (b := w.heap.size + 1) (cs := #[.int .u8 (bk : Int), .int .i64 bi, .string bz]) (t := 25) (fr := (0, 0)) (List.mem_cons_self ..) 2
        have z0 : w.heap.size + 1 < w5.heap.size := lt_of_block (H5.out.get (b := w.heap.size + 1) (o := .cells #[.int .u8 (bk : Int), .int .i64 bi, .string bz] 25 (0, 0)) (List.mem_cons_self ..))
        have f1_0 : w5.cell? ⟨w.heap.size, 0, none⟩ = some (.int .u8 (ak : Int)) := H5.out.cell (b := w.heap.size) (cs := #[.int .u8 (ak : Int), .int .i64 ai, .string az]) (t := 25) (fr := (0, 0)) (List.mem_cons_of_mem _ (List.mem_cons_self ..)) 0
        have f1_1 : w5.cell? ⟨w.heap.size, 1, none⟩ = some (.int .i64 ai) := H5.out.cell (b := w.heap.size) (cs := #[.int .u8 (ak : Int), .int .i64 ai, .string az]) (t := 25) (fr := (0, 0)) (List.mem_cons_of_mem _ (List.mem_cons_self ..)) 1
        have f1_2 : w5.cell? ⟨w.heap.size, 2, none⟩ = some (.string az) := H5.out.cell (b := w.heap.size) (cs := #[.int .u8 (ak : Int), .int .i64 ai, .string az]) (t := 25) (fr := (0, 0)) (List.mem_cons_of_mem _ (List.mem_cons_self ..)) 2
        have z1 : w.heap.size < w5.heap.size := lt_of_block (H5.out.get (b := w.heap.size) (o := .cells #[.int .u8 (ak : Int), .int .i64 ai, .string az] 25 (0, 0)) (List.mem_cons_of_mem _ (List.mem_cons_self ..)))
        go_wp2_with fail
        refine (two_yes 18 ak ai az bk bi bz 0 0 ⟨#[]⟩ 11 (by omega) akb bkb ai0 ai1 bi0 bi1 K18.out _ (HW.out _ H5.out.below)).mono ?_
        rintro e w6 ⟨rfl, hb⟩
        have H6 := Lib.hid (H5.out.kept hb)
        clear f0_0 f0_1 f0_2 z0 f1_0 f1_1 f1_2 z1
        clear hb 
        have f0_0 : w6.cell? ⟨w.heap.size + 1, 0, none⟩ = some (.int .u8 (bk : Int)) := H6.out.cell (b := w.heap.size + 1) (cs := #[.int .u8 (bk : Int), .int .i64 bi, .string bz]) (t := 25) (fr := (0, 0)) (List.mem_cons_self ..) 0
        have f0_1 : w6.cell? ⟨w.heap.size + 1, 1, none⟩ = some (.int .i64 bi) := H6.out.cell (b := w.heap.size + 1) (cs := #[.int .u8 (bk : Int), .int .i64 bi, .string bz]) (t := 25) (fr := (0, 0)) (List.mem_cons_self ..) 1
        have f0_2 : w6.cell? ⟨w.heap.size + 1, 2, none⟩ = some (.string bz) := H6.out.cell (b := w.heap.size + 1) (cs := #[.int .u8 (bk : Int), .int .i64 bi, .string bz]) (t := 25) (fr := (0, 0)) (List.mem_cons_self ..) 2
        have z0 : w.heap.size + 1 < w6.heap.size := lt_of_block (H6.out.get (b := w.heap.size + 1) (o := .cells #[.int .u8 (bk : Int), .int .i64 bi, .string bz] 25 (0, 0)) (List.mem_cons_self ..))
        have f1_0 : w6.cell? ⟨w.heap.size, 0, none⟩ = some (.int .u8 (ak : Int)) := H6.out.cell (b := w.heap.size) (cs := #[.int .u8 (ak : Int), .int .i64 ai, .string az]) (t := 25) (fr := (0, 0)) (List.mem_cons_of_mem _ (List.mem_cons_self ..)) 0
        have f1_1 : w6.cell? ⟨w.heap.size, 1, none⟩ = some (.int .i64 ai) := H6.out.cell (b := w.heap.size) (cs := #[.int .u8 (ak : Int), .int .i64 ai, .string az]) (t := 25) (fr := (0, 0)) (List.mem_cons_of_mem _ (List.mem_cons_self ..)) 1
        have f1_2 : w6.cell? ⟨w.heap.size, 2, none⟩ = some (.string az) := H6.out.cell (b := w.heap.size) (cs := #[.int .u8 (ak : Int), .int .i64 ai, .string az]) (t := 25) (fr := (0, 0)) (List.mem_cons_of_mem _ (List.mem_cons_self ..)) 2
        have z1 : w.heap.size < w6.heap.size := lt_of_block (H6.out.get (b := w.heap.size) (o := .cells #[.int .u8 (ak : Int), .int .i64 ai, .string az] 25 (0, 0)) (List.mem_cons_of_mem _ (List.mem_cons_self ..)))
        go_wp2_with fail
        go_ret
        exact ⟨rfl, H6.out.below⟩
      · have A2 : ((ak : Int) == 2) = false := by rw [beq_eq_false_iff_ne]; omega
        by_cases hb : bk = 2
        · have B2 : ((bk : Int) == 2) = true := by subst hb; rfl
          have K17 : Hid (Val.two 17 ⟨ak, ai, az⟩ ⟨bk, bi, bz⟩ = (⟨0, 0, ⟨#[]⟩⟩, 11)) := Lib.hid (by rw [fine_two (by rw [hfa, hfb]; simp)]; unfold Val.two0; rw [if_pos (by omega)]; unfold Val.both; rw [if_pos (by simp [hb])]; rfl)
          have K18 : Hid (Val.two 18 ⟨ak, ai, az⟩ ⟨bk, bi, bz⟩ = (⟨0, 0, ⟨#[]⟩⟩, 11)) := Lib.hid (by rw [fine_two (by rw [hfa, hfb]; simp)]; unfold Val.two0; rw [if_pos (by omega)]; unfold Val.both; rw [if_pos (by simp [hb])]; rfl)
          clear ha hb
          have f0_0 : w4.cell? ⟨w.heap.size + 1, 0, none⟩ = some (.int .u8 (bk : Int)) := H4.out.cell (b := w.heap.size + 1) (cs := #[.int .u8 (bk : Int), .int .i64 bi, .string bz]) (t := 25) (fr := (0, 0)) (List.mem_cons_self ..) 0
          have f0_1 : w4.cell? ⟨w.heap.size + 1, 1, none⟩ = some (.int .i64 bi) := H4.out.cell (b := w.heap.size + 1) (cs := #[.int .u8 (bk : Int), .int .i64 bi, .string bz]) (t := 25) (fr := (0, 0)) (List.mem_cons_self ..) 1
          have f0_2 : w4.cell? ⟨w.heap.size + 1, 2, none⟩ = some (.string bz) := H4.out.cell (b := w.heap.size + 1) (cs := #[.int .u8 (bk : Int), .int .i64 bi, .string bz]) (t := 25) (fr := (0, 0)) (List.mem_cons_self ..) 2
          have z0 : w.heap.size + 1 < w4.heap.size := lt_of_block (H4.out.get (b := w.heap.size + 1) (o := .cells #[.int .u8 (bk : Int), .int .i64 bi, .string bz] 25 (0, 0)) (List.mem_cons_self ..))
          have f1_0 : w4.cell? ⟨w.heap.size, 0, none⟩ = some (.int .u8 (ak : Int)) := H4.out.cell (b := w.heap.size) (cs := #[.int .u8 (ak : Int), .int .i64 ai, .string az]) (t := 25) (fr := (0, 0)) (List.mem_cons_of_mem _ (List.mem_cons_self ..)) 0
          have f1_1 : w4.cell? ⟨w.heap.size, 1, none⟩ = some (.int .i64 ai) := H4.out.cell (b := w.heap.size) (cs := #[.int .u8 (ak : Int), .int .i64 ai, .string az]) (t := 25) (fr := (0, 0)) (List.mem_cons_of_mem _ (List.mem_cons_self ..)) 1
          have f1_2 : w4.cell? ⟨w.heap.size, 2, none⟩ = some (.string az) := H4.out.cell (b := w.heap.size) (cs := #[.int .u8 (ak : Int), .int .i64 ai, .string az]) (t := 25) (fr := (0, 0)) (List.mem_cons_of_mem _ (List.mem_cons_self ..)) 2
          have z1 : w.heap.size < w4.heap.size := lt_of_block (H4.out.get (b := w.heap.size) (o := .cells #[.int .u8 (ak : Int), .int .i64 ai, .string az] 25 (0, 0)) (List.mem_cons_of_mem _ (List.mem_cons_self ..)))
          go_wp2_with fail
          refine (two_yes 17 ak ai az bk bi bz 0 0 ⟨#[]⟩ 11 (by omega) akb bkb ai0 ai1 bi0 bi1 K17.out _ (HW.out _ H4.out.below)).mono ?_
          rintro e w5 ⟨rfl, hb⟩
          have H5 := Lib.hid (H4.out.kept hb)
          clear f0_0 f0_1 f0_2 z0 f1_0 f1_1 f1_2 z1
          clear hb 
          have f0_0 : w5.cell? ⟨w.heap.size + 1, 0, none⟩ = some (.int .u8 (bk : Int)) := H5.out.cell (b := w.heap.size + 1) (cs := #[.int .u8 (bk : Int), .int .i64 bi, .string bz]) (t := 25) (fr := (0, 0)) (List.mem_cons_self ..) 0
          have f0_1 : w5.cell? ⟨w.heap.size + 1, 1, none⟩ = some (.int .i64 bi) := H5.out.cell (b := w.heap.size + 1) (cs := #[.int .u8 (bk : Int), .int .i64 bi, .string bz]) (t := 25) (fr := (0, 0)) (List.mem_cons_self ..) 1
          have f0_2 : w5.cell? ⟨w.heap.size + 1, 2, none⟩ = some (.string bz) := H5.out.cell (b := w.heap.size + 1) (cs := #[.int .u8 (bk : Int), .int .i64 bi, .string bz]) (t := 25) (fr := (0, 0)) (List.mem_cons_self ..) 2
          have z0 : w.heap.size + 1 < w5.heap.size := lt_of_block (H5.out.get (b := w.heap.size + 1) (o := .cells #[.int .u8 (bk : Int), .int .i64 bi, .string bz] 25 (0, 0)) (List.mem_cons_self ..))
          have f1_0 : w5.cell? ⟨w.heap.size, 0, none⟩ = some (.int .u8 (ak : Int)) := H5.out.cell (b := w.heap.size) (cs := #[.int .u8 (ak : Int), .int .i64 ai, .string az]) (t := 25) (fr := (0, 0)) (List.mem_cons_of_mem _ (List.mem_cons_self ..)) 0
          have f1_1 : w5.cell? ⟨w.heap.size, 1, none⟩ = some (.int .i64 ai) := H5.out.cell (b := w.heap.size) (cs := #[.int .u8 (ak : Int), .int .i64 ai, .string az]) (t := 25) (fr := (0, 0)) (List.mem_cons_of_mem _ (List.mem_cons_self ..)) 1
          have f1_2 : w5.cell? ⟨w.heap.size, 2, none⟩ = some (.string az) := H5.out.cell (b := w.heap.size) (cs := #[.int .u8 (ak : Int), .int .i64 ai, .string az]) (t := 25) (fr := (0, 0)) (List.mem_cons_of_mem _ (List.mem_cons_self ..)) 2
          have z1 : w.heap.size < w5.heap.size := lt_of_block (H5.out.get (b := w.heap.size) (o := .cells #[.int .u8 (ak : Int), .int .i64 ai, .string az] 25 (0, 0)) (List.mem_cons_of_mem _ (List.mem_cons_self ..)))
          go_wp2_with fail
          refine (two_yes 18 ak ai az bk bi bz 0 0 ⟨#[]⟩ 11 (by omega) akb bkb ai0 ai1 bi0 bi1 K18.out _ (HW.out _ H5.out.below)).mono ?_
          rintro e w6 ⟨rfl, hb⟩
          have H6 := Lib.hid (H5.out.kept hb)
          clear f0_0 f0_1 f0_2 z0 f1_0 f1_1 f1_2 z1
          clear hb 
          have f0_0 : w6.cell? ⟨w.heap.size + 1, 0, none⟩ = some (.int .u8 (bk : Int)) := H6.out.cell (b := w.heap.size + 1) (cs := #[.int .u8 (bk : Int), .int .i64 bi, .string bz]) (t := 25) (fr := (0, 0)) (List.mem_cons_self ..) 0
          have f0_1 : w6.cell? ⟨w.heap.size + 1, 1, none⟩ = some (.int .i64 bi) := H6.out.cell (b := w.heap.size + 1) (cs := #[.int .u8 (bk : Int), .int .i64 bi, .string bz]) (t := 25) (fr := (0, 0)) (List.mem_cons_self ..) 1
          have f0_2 : w6.cell? ⟨w.heap.size + 1, 2, none⟩ = some (.string bz) := H6.out.cell (b := w.heap.size + 1) (cs := #[.int .u8 (bk : Int), .int .i64 bi, .string bz]) (t := 25) (fr := (0, 0)) (List.mem_cons_self ..) 2
          have z0 : w.heap.size + 1 < w6.heap.size := lt_of_block (H6.out.get (b := w.heap.size + 1) (o := .cells #[.int .u8 (bk : Int), .int .i64 bi, .string bz] 25 (0, 0)) (List.mem_cons_self ..))
          have f1_0 : w6.cell? ⟨w.heap.size, 0, none⟩ = some (.int .u8 (ak : Int)) := H6.out.cell (b := w.heap.size) (cs := #[.int .u8 (ak : Int), .int .i64 ai, .string az]) (t := 25) (fr := (0, 0)) (List.mem_cons_of_mem _ (List.mem_cons_self ..)) 0
          have f1_1 : w6.cell? ⟨w.heap.size, 1, none⟩ = some (.int .i64 ai) := H6.out.cell (b := w.heap.size) (cs := #[.int .u8 (ak : Int), .int .i64 ai, .string az]) (t := 25) (fr := (0, 0)) (List.mem_cons_of_mem _ (List.mem_cons_self ..)) 1
          have f1_2 : w6.cell? ⟨w.heap.size, 2, none⟩ = some (.string az) := H6.out.cell (b := w.heap.size) (cs := #[.int .u8 (ak : Int), .int .i64 ai, .string az]) (t := 25) (fr := (0, 0)) (List.mem_cons_of_mem _ (List.mem_cons_self ..)) 2
          have z1 : w.heap.size < w6.heap.size := lt_of_block (H6.out.get (b := w.heap.size) (o := .cells #[.int .u8 (ak : Int), .int .i64 ai, .string az] 25 (0, 0)) (List.mem_cons_of_mem _ (List.mem_cons_self ..)))
          go_wp2_with fail
          go_ret
          exact ⟨rfl, H6.out.below⟩
        · have B2 : ((bk : Int) == 2) = false := by rw [beq_eq_false_iff_ne]; omega
          obtain ⟨uk, ui, tk, ti, sk, si, vk, vi, hu, ht, hs, hv, huv, ukb, ⟨ui0, ui1⟩, tkb, ⟨ti0, ti1⟩, skb, ⟨si0, si1⟩⟩ := not_both _ _ hfa hfb ha hb
          have Ku := Lib.hid hu
          have Kt := Lib.hid ht
          have Ks := Lib.hid hs
          have Kv := Lib.hid hv
          have Kuv := Lib.hid huv
          clear hu ht hs hv huv ha hb
          have f0_0 : w4.cell? ⟨w.heap.size + 1, 0, none⟩ = some (.int .u8 (bk : Int)) := H4.out.cell (b := w.heap.size + 1) (cs := #[.int .u8 (bk : Int), .int .i64 bi, .string bz]) (t := 25) (fr := (0, 0)) (List.mem_cons_self ..) 0
          have f0_1 : w4.cell? ⟨w.heap.size + 1, 1, none⟩ = some (.int .i64 bi) := H4.out.cell (b := w.heap.size + 1) (cs := #[.int .u8 (bk : Int), .int .i64 bi, .string bz]) (t := 25) (fr := (0, 0)) (List.mem_cons_self ..) 1
          have f0_2 : w4.cell? ⟨w.heap.size + 1, 2, none⟩ = some (.string bz) := H4.out.cell (b := w.heap.size + 1) (cs := #[.int .u8 (bk : Int), .int .i64 bi, .string bz]) (t := 25) (fr := (0, 0)) (List.mem_cons_self ..) 2
          have z0 : w.heap.size + 1 < w4.heap.size := lt_of_block (H4.out.get (b := w.heap.size + 1) (o := .cells #[.int .u8 (bk : Int), .int .i64 bi, .string bz] 25 (0, 0)) (List.mem_cons_self ..))
          have f1_0 : w4.cell? ⟨w.heap.size, 0, none⟩ = some (.int .u8 (ak : Int)) := H4.out.cell (b := w.heap.size) (cs := #[.int .u8 (ak : Int), .int .i64 ai, .string az]) (t := 25) (fr := (0, 0)) (List.mem_cons_of_mem _ (List.mem_cons_self ..)) 0
          have f1_1 : w4.cell? ⟨w.heap.size, 1, none⟩ = some (.int .i64 ai) := H4.out.cell (b := w.heap.size) (cs := #[.int .u8 (ak : Int), .int .i64 ai, .string az]) (t := 25) (fr := (0, 0)) (List.mem_cons_of_mem _ (List.mem_cons_self ..)) 1
          have f1_2 : w4.cell? ⟨w.heap.size, 2, none⟩ = some (.string az) := H4.out.cell (b := w.heap.size) (cs := #[.int .u8 (ak : Int), .int .i64 ai, .string az]) (t := 25) (fr := (0, 0)) (List.mem_cons_of_mem _ (List.mem_cons_self ..)) 2
          have z1 : w.heap.size < w4.heap.size := lt_of_block (H4.out.get (b := w.heap.size) (o := .cells #[.int .u8 (ak : Int), .int .i64 ai, .string az] 25 (0, 0)) (List.mem_cons_of_mem _ (List.mem_cons_self ..)))
          go_wp2_with fail
          refine (two_is 17 ak ai az bk bi bz uk ui _ 0 (by omega) akb bkb ai0 ai1 bi0 bi1 Ku.out _ (HW.out _ H4.out.below)).mono ?_
          rintro e w5 ⟨rfl, hb⟩
          have H5 := Lib.hid (H4.out.kept hb)
          clear f0_0 f0_1 f0_2 z0 f1_0 f1_1 f1_2 z1
          clear hb 
          have f0_0 : w5.cell? ⟨w.heap.size + 1, 0, none⟩ = some (.int .u8 (bk : Int)) := H5.out.cell (b := w.heap.size + 1) (cs := #[.int .u8 (bk : Int), .int .i64 bi, .string bz]) (t := 25) (fr := (0, 0)) (List.mem_cons_self ..) 0
          have f0_1 : w5.cell? ⟨w.heap.size + 1, 1, none⟩ = some (.int .i64 bi) := H5.out.cell (b := w.heap.size + 1) (cs := #[.int .u8 (bk : Int), .int .i64 bi, .string bz]) (t := 25) (fr := (0, 0)) (List.mem_cons_self ..) 1
          have f0_2 : w5.cell? ⟨w.heap.size + 1, 2, none⟩ = some (.string bz) := H5.out.cell (b := w.heap.size + 1) (cs := #[.int .u8 (bk : Int), .int .i64 bi, .string bz]) (t := 25) (fr := (0, 0)) (List.mem_cons_self ..) 2
          have z0 : w.heap.size + 1 < w5.heap.size := lt_of_block (H5.out.get (b := w.heap.size + 1) (o := .cells #[.int .u8 (bk : Int), .int .i64 bi, .string bz] 25 (0, 0)) (List.mem_cons_self ..))
          have f1_0 : w5.cell? ⟨w.heap.size, 0, none⟩ = some (.int .u8 (ak : Int)) := H5.out.cell (b := w.heap.size) (cs := #[.int .u8 (ak : Int), .int .i64 ai, .string az]) (t := 25) (fr := (0, 0)) (List.mem_cons_of_mem _ (List.mem_cons_self ..)) 0
          have f1_1 : w5.cell? ⟨w.heap.size, 1, none⟩ = some (.int .i64 ai) := H5.out.cell (b := w.heap.size) (cs := #[.int .u8 (ak : Int), .int .i64 ai, .string az]) (t := 25) (fr := (0, 0)) (List.mem_cons_of_mem _ (List.mem_cons_self ..)) 1
          have f1_2 : w5.cell? ⟨w.heap.size, 2, none⟩ = some (.string az) := H5.out.cell (b := w.heap.size) (cs := #[.int .u8 (ak : Int), .int .i64 ai, .string az]) (t := 25) (fr := (0, 0)) (List.mem_cons_of_mem _ (List.mem_cons_self ..)) 2
          have z1 : w.heap.size < w5.heap.size := lt_of_block (H5.out.get (b := w.heap.size) (o := .cells #[.int .u8 (ak : Int), .int .i64 ai, .string az] 25 (0, 0)) (List.mem_cons_of_mem _ (List.mem_cons_self ..)))
          go_wp2_with fail
          have HU0 := Lib.hid (H5.out.add (below_alloc w5 (.cells #[.int .u8 (uk : Int), .int .i64 ui, .string ⟨#[]⟩] 25)) (Nat.le_refl _) (heap_alloc_new _ _))
          clear f0_0 f0_1 f0_2 z0 f1_0 f1_1 f1_2 z1
          obtain ⟨bu, hbu⟩ : ∃ x, x = w5.heap.size := ⟨_, rfl⟩
          obtain ⟨v5, hv5⟩ : ∃ x, x = w5.alloc (.cells #[.int .u8 (uk : Int), .int .i64 ui, .string ⟨#[]⟩] 25) := ⟨_, rfl⟩
          rw [← hbu, ← hv5] at HU0
          rw [← hbu, ← hv5]
          clear hbu hv5 H5
          have s0 : v5.cell? ⟨w.heap.size + 1, 0, none⟩ = some (.int .u8 (bk : Int)) := HU0.out.cell (b := w.heap.size + 1) (cs := #[.int .u8 (bk : Int), .int .i64 bi, .string bz]) (t := 25) (fr := (0, 0)) (List.mem_cons_of_mem _ (List.mem_cons_self ..)) (0)
          have s1 : v5.cell? ⟨w.heap.size + 1, 1, none⟩ = some (.int .i64 bi) := HU0.out.cell (b := w.heap.size + 1) (cs := #[.int .u8 (bk : Int), .int .i64 bi, .string bz]) (t := 25) (fr := (0, 0)) (List.mem_cons_of_mem _ (List.mem_cons_self ..)) (1)
          have s2 : v5.cell? ⟨w.heap.size + 1, 2, none⟩ = some (.string bz) := HU0.out.cell (b := w.heap.size + 1) (cs := #[.int .u8 (bk : Int), .int .i64 bi, .string bz]) (t := 25) (fr := (0, 0)) (List.mem_cons_of_mem _ (List.mem_cons_self ..)) (2)
          have s3 : v5.cell? ⟨w.heap.size, 0, none⟩ = some (.int .u8 (ak : Int)) := HU0.out.cell (b := w.heap.size) (cs := #[.int .u8 (ak : Int), .int .i64 ai, .string az]) (t := 25) (fr := (0, 0)) (List.mem_cons_of_mem _ (List.mem_cons_of_mem _ (List.mem_cons_self ..))) (0)
          have s4 : v5.cell? ⟨w.heap.size, 1, none⟩ = some (.int .i64 ai) := HU0.out.cell (b := w.heap.size) (cs := #[.int .u8 (ak : Int), .int .i64 ai, .string az]) (t := 25) (fr := (0, 0)) (List.mem_cons_of_mem _ (List.mem_cons_of_mem _ (List.mem_cons_self ..))) (1)
          have s5 : v5.cell? ⟨w.heap.size, 2, none⟩ = some (.string az) := HU0.out.cell (b := w.heap.size) (cs := #[.int .u8 (ak : Int), .int .i64 ai, .string az]) (t := 25) (fr := (0, 0)) (List.mem_cons_of_mem _ (List.mem_cons_of_mem _ (List.mem_cons_self ..))) (2)
          have z0 : bu < v5.heap.size := lt_of_block (HU0.out.get (b := bu) (o := .cells #[.int .u8 (uk : Int), .int .i64 ui, .string ⟨#[]⟩] 25 (0, 0)) (List.mem_cons_self ..))
          have z1 : w.heap.size + 1 < v5.heap.size := lt_of_block (HU0.out.get (b := w.heap.size + 1) (o := .cells #[.int .u8 (bk : Int), .int .i64 bi, .string bz] 25 (0, 0)) (List.mem_cons_of_mem _ (List.mem_cons_self ..)))
          have z2 : w.heap.size < v5.heap.size := lt_of_block (HU0.out.get (b := w.heap.size) (o := .cells #[.int .u8 (ak : Int), .int .i64 ai, .string az] 25 (0, 0)) (List.mem_cons_of_mem _ (List.mem_cons_of_mem _ (List.mem_cons_self ..))))
          have HM := HU0
          have HL := HU0
          apply wp_merge (R := fun b x => Hid (Fam w ((b, .cells #[.int .u8 (vk : Int), .int .i64 vi, .string ⟨#[]⟩] 25 (0, 0)) :: [(bu, .cells #[.int .u8 (uk : Int), .int .i64 ui, .string ⟨#[]⟩] 25 (0, 0)), (w.heap.size + 1, .cells #[.int .u8 (bk : Int), .int .i64 bi, .string bz] 25 (0, 0)), (w.heap.size, .cells #[.int .u8 (ak : Int), .int .i64 ai, .string az] 25 (0, 0))]) x))
          case h =>
            go_region_held3 (fun x => x.cell? ⟨w.heap.size + 1, 0, none⟩ = some (.int .u8 (bk : Int)) ∧ x.cell? ⟨w.heap.size + 1, 1, none⟩ = some (.int .i64 bi) ∧ x.cell? ⟨w.heap.size + 1, 2, none⟩ = some (.string bz) ∧ x.cell? ⟨w.heap.size, 0, none⟩ = some (.int .u8 (ak : Int)) ∧ x.cell? ⟨w.heap.size, 1, none⟩ = some (.int .i64 ai) ∧ x.cell? ⟨w.heap.size, 2, none⟩ = some (.string az)) (first | with_reducible exact ⟨s0, s1, s2, s3, s4, s5⟩ | with_reducible exact ⟨keep_drew s0, keep_drew s1, keep_drew s2, keep_drew s3, keep_drew s4, keep_drew s5⟩ | with_reducible exact ⟨keep_drew (keep_alloc s0), keep_drew (keep_alloc s1), keep_drew (keep_alloc s2), keep_drew (keep_alloc s3), keep_drew (keep_alloc s4), keep_drew (keep_alloc s5)⟩ | with_reducible exact ⟨keep_alloc (keep_drew s0), keep_alloc (keep_drew s1), keep_alloc (keep_drew s2), keep_alloc (keep_drew s3), keep_alloc (keep_drew s4), keep_alloc (keep_drew s5)⟩ | with_reducible exact SS.out | with_reducible exact ⟨keep_alloc SS.out.1, keep_alloc SS.out.2.1, keep_alloc SS.out.2.2.1, keep_alloc SS.out.2.2.2.1, keep_alloc SS.out.2.2.2.2.1, keep_alloc SS.out.2.2.2.2.2⟩ | with_reducible exact ⟨(set3_other (by omega) _ _ _ _).trans SS.out.1, (set3_other (by omega) _ _ _ _).trans SS.out.2.1, (set3_other (by omega) _ _ _ _).trans SS.out.2.2.1, (set3_other (by omega) _ _ _ _).trans SS.out.2.2.2.1, (set3_other (by omega) _ _ _ _).trans SS.out.2.2.2.2.1, (set3_other (by omega) _ _ _ _).trans SS.out.2.2.2.2.2⟩) ((first | (go_at_call_of 14 (ak); (first | ((first | refine stepF HM.out (fun hB => turned_is ak ai az tk ti _ akb ai0 ai1 Kt.out _) ?_ | refine stepF HM.out.drew' (fun hB => turned_is ak ai az tk ti _ akb ai0 ai1 Kt.out _) ?_); intro u1 HM HL; have t0 : u1.cell? ⟨w.heap.size + 1, 0, none⟩ = some (.int .u8 (bk : Int)) := HL.out.cell (b := w.heap.size + 1) (cs := #[.int .u8 (bk : Int), .int .i64 bi, .string bz]) (t := 25) (fr := (0, 0)) (List.mem_cons_of_mem _ (List.mem_cons_self ..)) (0); have t1 : u1.cell? ⟨w.heap.size + 1, 1, none⟩ = some (.int .i64 bi) := HL.out.cell (b := w.heap.size + 1) (cs := #[.int .u8 (bk : Int), .int .i64 bi, .string bz]) (t := 25) (fr := (0, 0)) (List.mem_cons_of_mem _ (List.mem_cons_self ..)) (1); have t2 : u1.cell? ⟨w.heap.size + 1, 2, none⟩ = some (.string bz) := HL.out.cell (b := w.heap.size + 1) (cs := #[.int .u8 (bk : Int), .int .i64 bi, .string bz]) (t := 25) (fr := (0, 0)) (List.mem_cons_of_mem _ (List.mem_cons_self ..)) (2); have t3 : u1.cell? ⟨w.heap.size, 0, none⟩ = some (.int .u8 (ak : Int)) := HL.out.cell (b := w.heap.size) (cs := #[.int .u8 (ak : Int), .int .i64 ai, .string az]) (t := 25) (fr := (0, 0)) (List.mem_cons_of_mem _ (List.mem_cons_of_mem _ (List.mem_cons_self ..))) (0); have t4 : u1.cell? ⟨w.heap.size, 1, none⟩ = some (.int .i64 ai) := HL.out.cell (b := w.heap.size) (cs := #[.int .u8 (ak : Int), .int .i64 ai, .string az]) (t := 25) (fr := (0, 0)) (List.mem_cons_of_mem _ (List.mem_cons_of_mem _ (List.mem_cons_self ..))) (1); have t5 : u1.cell? ⟨w.heap.size, 2, none⟩ = some (.string az) := HL.out.cell (b := w.heap.size) (cs := #[.int .u8 (ak : Int), .int .i64 ai, .string az]) (t := 25) (fr := (0, 0)) (List.mem_cons_of_mem _ (List.mem_cons_of_mem _ (List.mem_cons_self ..))) (2); have SS := Lib.hid (show _ from (And.intro t0 (And.intro t1 (And.intro t2 (And.intro t3 (And.intro t4 t5)))))); clear t0 t1 t2 t3 t4 t5; have z0 : bu < u1.heap.size := lt_of_block (HL.out.get (b := bu) (o := .cells #[.int .u8 (uk : Int), .int .i64 ui, .string ⟨#[]⟩] 25 (0, 0)) (List.mem_cons_self ..)); have z1 : w.heap.size + 1 < u1.heap.size := lt_of_block (HL.out.get (b := w.heap.size + 1) (o := .cells #[.int .u8 (bk : Int), .int .i64 bi, .string bz] 25 (0, 0)) (List.mem_cons_of_mem _ (List.mem_cons_self ..))); have z2 : w.heap.size < u1.heap.size := lt_of_block (HL.out.get (b := w.heap.size) (o := .cells #[.int .u8 (ak : Int), .int .i64 ai, .string az] 25 (0, 0)) (List.mem_cons_of_mem _ (List.mem_cons_of_mem _ (List.mem_cons_self ..))))) | ((first | refine stepZ HM.out (fun hB => turned_is ak ai az tk ti _ akb ai0 ai1 Kt.out _) ?_ | refine stepZ HM.out.zero (fun hB => turned_is ak ai az tk ti _ akb ai0 ai1 Kt.out _) ?_ | refine stepZ HM.out.zero.drew' (fun hB => turned_is ak ai az tk ti _ akb ai0 ai1 Kt.out _) ?_ | refine stepZ HM.out.drew'.zero (fun hB => turned_is ak ai az tk ti _ akb ai0 ai1 Kt.out _) ?_ | refine stepZ HM.out.drew' (fun hB => turned_is ak ai az tk ti _ akb ai0 ai1 Kt.out _) ?_); intro u1 HM HL; have t0 : u1.cell? ⟨w.heap.size + 1, 0, none⟩ = some (.int .u8 (bk : Int)) := HL.out.cell (b := w.heap.size + 1) (cs := #[.int .u8 (bk : Int), .int .i64 bi, .string bz]) (t := 25) (fr := (0, 0)) (List.mem_cons_of_mem _ (List.mem_cons_self ..)) (0); have t1 : u1.cell? ⟨w.heap.size + 1, 1, none⟩ = some (.int .i64 bi) := HL.out.cell (b := w.heap.size + 1) (cs := #[.int .u8 (bk : Int), .int .i64 bi, .string bz]) (t := 25) (fr := (0, 0)) (List.mem_cons_of_mem _ (List.mem_cons_self ..)) (1); have t2 : u1.cell? ⟨w.heap.size + 1, 2, none⟩ = some (.string bz) := HL.out.cell (b := w.heap.size + 1) (cs := #[.int .u8 (bk : Int), .int .i64 bi, .string bz]) (t := 25) (fr := (0, 0)) (List.mem_cons_of_mem _ (List.mem_cons_self ..)) (2); have t3 : u1.cell? ⟨w.heap.size, 0, none⟩ = some (.int .u8 (ak : Int)) := HL.out.cell (b := w.heap.size) (cs := #[.int .u8 (ak : Int), .int .i64 ai, .string az]) (t := 25) (fr := (0, 0)) (List.mem_cons_of_mem _ (List.mem_cons_of_mem _ (List.mem_cons_self ..))) (0); have t4 : u1.cell? ⟨w.heap.size, 1, none⟩ = some (.int .i64 ai) := HL.out.cell (b := w.heap.size) (cs := #[.int .u8 (ak : Int), .int .i64 ai, .string az]) (t := 25) (fr := (0, 0)) (List.mem_cons_of_mem _ (List.mem_cons_of_mem _ (List.mem_cons_self ..))) (1); have t5 : u1.cell? ⟨w.heap.size, 2, none⟩ = some (.string az) := HL.out.cell (b := w.heap.size) (cs := #[.int .u8 (ak : Int), .int .i64 ai, .string az]) (t := 25) (fr := (0, 0)) (List.mem_cons_of_mem _ (List.mem_cons_of_mem _ (List.mem_cons_self ..))) (2); have SS := Lib.hid (show _ from (And.intro t0 (And.intro t1 (And.intro t2 (And.intro t3 (And.intro t4 t5)))))); clear t0 t1 t2 t3 t4 t5; have z0 : bu < u1.heap.size := lt_of_block (HL.out.get (b := bu) (o := .cells #[.int .u8 (uk : Int), .int .i64 ui, .string ⟨#[]⟩] 25 (0, 0)) (List.mem_cons_self ..)); have z1 : w.heap.size + 1 < u1.heap.size := lt_of_block (HL.out.get (b := w.heap.size + 1) (o := .cells #[.int .u8 (bk : Int), .int .i64 bi, .string bz] 25 (0, 0)) (List.mem_cons_of_mem _ (List.mem_cons_self ..))); have z2 : w.heap.size < u1.heap.size := lt_of_block (HL.out.get (b := w.heap.size) (o := .cells #[.int .u8 (ak : Int), .int .i64 ai, .string az] 25 (0, 0)) (List.mem_cons_of_mem _ (List.mem_cons_of_mem _ (List.mem_cons_self ..)))); have r0 : u1.cell? ⟨_, 0, none⟩ = some (.int .u8 0) := HM.out.cell 0; have r1 : u1.cell? ⟨_, 1, none⟩ = some (.int .i64 0) := HM.out.cell 1; have r2 : u1.cell? ⟨_, 2, none⟩ = some (.string ⟨#[]⟩) := HM.out.cell 2; have f0 : u1.frozen? ⟨_, 0, none⟩ = false := HM.out.free 0; have f1 : u1.frozen? ⟨_, 1, none⟩ = false := HM.out.free 1; have f2 : u1.frozen? ⟨_, 2, none⟩ = false := HM.out.free 2; have z9 : _ < u1.heap.size := lt_of_block HM.out.new))) | (go_at_call_of 14 (bk); (first | ((first | refine stepF HM.out (fun hB => turned_is bk bi bz sk si _ bkb bi0 bi1 Ks.out _) ?_ | refine stepF HM.out.drew' (fun hB => turned_is bk bi bz sk si _ bkb bi0 bi1 Ks.out _) ?_); intro u2 HM HL; have t0 : u2.cell? ⟨w.heap.size + 1, 0, none⟩ = some (.int .u8 (bk : Int)) := HL.out.cell (b := w.heap.size + 1) (cs := #[.int .u8 (bk : Int), .int .i64 bi, .string bz]) (t := 25) (fr := (0, 0)) (List.mem_cons_of_mem _ (List.mem_cons_self ..)) (0); have t1 : u2.cell? ⟨w.heap.size + 1, 1, none⟩ = some (.int .i64 bi) := HL.out.cell (b := w.heap.size + 1) (cs := #[.int .u8 (bk : Int), .int .i64 bi, .string bz]) (t := 25) (fr := (0, 0)) (List.mem_cons_of_mem _ (List.mem_cons_self ..)) (1); have t2 : u2.cell? ⟨w.heap.size + 1, 2, none⟩ = some (.string bz) := HL.out.cell (b := w.heap.size + 1) (cs := #[.int .u8 (bk : Int), .int .i64 bi, .string bz]) (t := 25) (fr := (0, 0)) (List.mem_cons_of_mem _ (List.mem_cons_self ..)) (2); have t3 : u2.cell? ⟨w.heap.size, 0, none⟩ = some (.int .u8 (ak : Int)) := HL.out.cell (b := w.heap.size) (cs := #[.int .u8 (ak : Int), .int .i64 ai, .string az]) (t := 25) (fr := (0, 0)) (List.mem_cons_of_mem _ (List.mem_cons_of_mem _ (List.mem_cons_self ..))) (0); have t4 : u2.cell? ⟨w.heap.size, 1, none⟩ = some (.int .i64 ai) := HL.out.cell (b := w.heap.size) (cs := #[.int .u8 (ak : Int), .int .i64 ai, .string az]) (t := 25) (fr := (0, 0)) (List.mem_cons_of_mem _ (List.mem_cons_of_mem _ (List.mem_cons_self ..))) (1); have t5 : u2.cell? ⟨w.heap.size, 2, none⟩ = some (.string az) := HL.out.cell (b := w.heap.size) (cs := #[.int .u8 (ak : Int), .int .i64 ai, .string az]) (t := 25) (fr := (0, 0)) (List.mem_cons_of_mem _ (List.mem_cons_of_mem _ (List.mem_cons_self ..))) (2); have SS := Lib.hid (show _ from (And.intro t0 (And.intro t1 (And.intro t2 (And.intro t3 (And.intro t4 t5)))))); clear t0 t1 t2 t3 t4 t5; have z0 : bu < u2.heap.size := lt_of_block (HL.out.get (b := bu) (o := .cells #[.int .u8 (uk : Int), .int .i64 ui, .string ⟨#[]⟩] 25 (0, 0)) (List.mem_cons_self ..)); have z1 : w.heap.size + 1 < u2.heap.size := lt_of_block (HL.out.get (b := w.heap.size + 1) (o := .cells #[.int .u8 (bk : Int), .int .i64 bi, .string bz] 25 (0, 0)) (List.mem_cons_of_mem _ (List.mem_cons_self ..))); have z2 : w.heap.size < u2.heap.size := lt_of_block (HL.out.get (b := w.heap.size) (o := .cells #[.int .u8 (ak : Int), .int .i64 ai, .string az] 25 (0, 0)) (List.mem_cons_of_mem _ (List.mem_cons_of_mem _ (List.mem_cons_self ..))))) | ((first | refine stepZ HM.out (fun hB => turned_is bk bi bz sk si _ bkb bi0 bi1 Ks.out _) ?_ | refine stepZ HM.out.zero (fun hB => turned_is bk bi bz sk si _ bkb bi0 bi1 Ks.out _) ?_ | refine stepZ HM.out.zero.drew' (fun hB => turned_is bk bi bz sk si _ bkb bi0 bi1 Ks.out _) ?_ | refine stepZ HM.out.drew'.zero (fun hB => turned_is bk bi bz sk si _ bkb bi0 bi1 Ks.out _) ?_ | refine stepZ HM.out.drew' (fun hB => turned_is bk bi bz sk si _ bkb bi0 bi1 Ks.out _) ?_); intro u2 HM HL; have t0 : u2.cell? ⟨w.heap.size + 1, 0, none⟩ = some (.int .u8 (bk : Int)) := HL.out.cell (b := w.heap.size + 1) (cs := #[.int .u8 (bk : Int), .int .i64 bi, .string bz]) (t := 25) (fr := (0, 0)) (List.mem_cons_of_mem _ (List.mem_cons_self ..)) (0); have t1 : u2.cell? ⟨w.heap.size + 1, 1, none⟩ = some (.int .i64 bi) := HL.out.cell (b := w.heap.size + 1) (cs := #[.int .u8 (bk : Int), .int .i64 bi, .string bz]) (t := 25) (fr := (0, 0)) (List.mem_cons_of_mem _ (List.mem_cons_self ..)) (1); have t2 : u2.cell? ⟨w.heap.size + 1, 2, none⟩ = some (.string bz) := HL.out.cell (b := w.heap.size + 1) (cs := #[.int .u8 (bk : Int), .int .i64 bi, .string bz]) (t := 25) (fr := (0, 0)) (List.mem_cons_of_mem _ (List.mem_cons_self ..)) (2); have t3 : u2.cell? ⟨w.heap.size, 0, none⟩ = some (.int .u8 (ak : Int)) := HL.out.cell (b := w.heap.size) (cs := #[.int .u8 (ak : Int), .int .i64 ai, .string az]) (t := 25) (fr := (0, 0)) (List.mem_cons_of_mem _ (List.mem_cons_of_mem _ (List.mem_cons_self ..))) (0); have t4 : u2.cell? ⟨w.heap.size, 1, none⟩ = some (.int .i64 ai) := HL.out.cell (b := w.heap.size) (cs := #[.int .u8 (ak : Int), .int .i64 ai, .string az]) (t := 25) (fr := (0, 0)) (List.mem_cons_of_mem _ (List.mem_cons_of_mem _ (List.mem_cons_self ..))) (1); have t5 : u2.cell? ⟨w.heap.size, 2, none⟩ = some (.string az) := HL.out.cell (b := w.heap.size) (cs := #[.int .u8 (ak : Int), .int .i64 ai, .string az]) (t := 25) (fr := (0, 0)) (List.mem_cons_of_mem _ (List.mem_cons_of_mem _ (List.mem_cons_self ..))) (2); have SS := Lib.hid (show _ from (And.intro t0 (And.intro t1 (And.intro t2 (And.intro t3 (And.intro t4 t5)))))); clear t0 t1 t2 t3 t4 t5; have z0 : bu < u2.heap.size := lt_of_block (HL.out.get (b := bu) (o := .cells #[.int .u8 (uk : Int), .int .i64 ui, .string ⟨#[]⟩] 25 (0, 0)) (List.mem_cons_self ..)); have z1 : w.heap.size + 1 < u2.heap.size := lt_of_block (HL.out.get (b := w.heap.size + 1) (o := .cells #[.int .u8 (bk : Int), .int .i64 bi, .string bz] 25 (0, 0)) (List.mem_cons_of_mem _ (List.mem_cons_self ..))); have z2 : w.heap.size < u2.heap.size := lt_of_block (HL.out.get (b := w.heap.size) (o := .cells #[.int .u8 (ak : Int), .int .i64 ai, .string az] 25 (0, 0)) (List.mem_cons_of_mem _ (List.mem_cons_of_mem _ (List.mem_cons_self ..)))); have r0 : u2.cell? ⟨_, 0, none⟩ = some (.int .u8 0) := HM.out.cell 0; have r1 : u2.cell? ⟨_, 1, none⟩ = some (.int .i64 0) := HM.out.cell 1; have r2 : u2.cell? ⟨_, 2, none⟩ = some (.string ⟨#[]⟩) := HM.out.cell 2; have f0 : u2.frozen? ⟨_, 0, none⟩ = false := HM.out.free 0; have f1 : u2.frozen? ⟨_, 1, none⟩ = false := HM.out.free 1; have f2 : u2.frozen? ⟨_, 2, none⟩ = false := HM.out.free 2; have z9 : _ < u2.heap.size := lt_of_block HM.out.new))) | (go_at_call 8; (first | ((first | refine stepF HM.out (fun hB => two_is 18 tk ti _ sk si _ vk vi _ 0 (by omega) tkb skb ti0 ti1 si0 si1 Kv.out _ (HW.out _ hB)) ?_ | refine stepF HM.out.drew' (fun hB => two_is 18 tk ti _ sk si _ vk vi _ 0 (by omega) tkb skb ti0 ti1 si0 si1 Kv.out _ (HW.out _ hB)) ?_); intro u3 HM HL; have t0 : u3.cell? ⟨w.heap.size + 1, 0, none⟩ = some (.int .u8 (bk : Int)) := HL.out.cell (b := w.heap.size + 1) (cs := #[.int .u8 (bk : Int), .int .i64 bi, .string bz]) (t := 25) (fr := (0, 0)) (List.mem_cons_of_mem _ (List.mem_cons_self ..)) (0); have t1 : u3.cell? ⟨w.heap.size + 1, 1, none⟩ = some (.int .i64 bi) := HL.out.cell (b := w.heap.size + 1) (cs := #[.int .u8 (bk : Int), .int .i64 bi, .string bz]) (t := 25) (fr := (0, 0)) (List.mem_cons_of_mem _ (List.mem_cons_self ..)) (1); have t2 : u3.cell? ⟨w.heap.size + 1, 2, none⟩ = some (.string bz) := HL.out.cell (b := w.heap.size + 1) (cs := #[.int .u8 (bk : Int), .int .i64 bi, .string bz]) (t := 25) (fr := (0, 0)) (List.mem_cons_of_mem _ (List.mem_cons_self ..)) (2); have t3 : u3.cell? ⟨w.heap.size, 0, none⟩ = some (.int .u8 (ak : Int)) := HL.out.cell (b := w.heap.size) (cs := #[.int .u8 (ak : Int), .int .i64 ai, .string az]) (t := 25) (fr := (0, 0)) (List.mem_cons_of_mem _ (List.mem_cons_of_mem _ (List.mem_cons_self ..))) (0); have t4 : u3.cell? ⟨w.heap.size, 1, none⟩ = some (.int .i64 ai) := HL.out.cell (b := w.heap.size) (cs := #[.int .u8 (ak : Int), .int .i64 ai, .string az]) (t := 25) (fr := (0, 0)) (List.mem_cons_of_mem _ (List.mem_cons_of_mem _ (List.mem_cons_self ..))) (1); have t5 : u3.cell? ⟨w.heap.size, 2, none⟩ = some (.string az) := HL.out.cell (b := w.heap.size) (cs := #[.int .u8 (ak : Int), .int .i64 ai, .string az]) (t := 25) (fr := (0, 0)) (List.mem_cons_of_mem _ (List.mem_cons_of_mem _ (List.mem_cons_self ..))) (2); have SS := Lib.hid (show _ from (And.intro t0 (And.intro t1 (And.intro t2 (And.intro t3 (And.intro t4 t5)))))); clear t0 t1 t2 t3 t4 t5; have z0 : bu < u3.heap.size := lt_of_block (HL.out.get (b := bu) (o := .cells #[.int .u8 (uk : Int), .int .i64 ui, .string ⟨#[]⟩] 25 (0, 0)) (List.mem_cons_self ..)); have z1 : w.heap.size + 1 < u3.heap.size := lt_of_block (HL.out.get (b := w.heap.size + 1) (o := .cells #[.int .u8 (bk : Int), .int .i64 bi, .string bz] 25 (0, 0)) (List.mem_cons_of_mem _ (List.mem_cons_self ..))); have z2 : w.heap.size < u3.heap.size := lt_of_block (HL.out.get (b := w.heap.size) (o := .cells #[.int .u8 (ak : Int), .int .i64 ai, .string az] 25 (0, 0)) (List.mem_cons_of_mem _ (List.mem_cons_of_mem _ (List.mem_cons_self ..))))) | ((first | refine stepZ HM.out (fun hB => two_is 18 tk ti _ sk si _ vk vi _ 0 (by omega) tkb skb ti0 ti1 si0 si1 Kv.out _ (HW.out _ hB)) ?_ | refine stepZ HM.out.zero (fun hB => two_is 18 tk ti _ sk si _ vk vi _ 0 (by omega) tkb skb ti0 ti1 si0 si1 Kv.out _ (HW.out _ hB)) ?_ | refine stepZ HM.out.zero.drew' (fun hB => two_is 18 tk ti _ sk si _ vk vi _ 0 (by omega) tkb skb ti0 ti1 si0 si1 Kv.out _ (HW.out _ hB)) ?_ | refine stepZ HM.out.drew'.zero (fun hB => two_is 18 tk ti _ sk si _ vk vi _ 0 (by omega) tkb skb ti0 ti1 si0 si1 Kv.out _ (HW.out _ hB)) ?_ | refine stepZ HM.out.drew' (fun hB => two_is 18 tk ti _ sk si _ vk vi _ 0 (by omega) tkb skb ti0 ti1 si0 si1 Kv.out _ (HW.out _ hB)) ?_); intro u3 HM HL; have t0 : u3.cell? ⟨w.heap.size + 1, 0, none⟩ = some (.int .u8 (bk : Int)) := HL.out.cell (b := w.heap.size + 1) (cs := #[.int .u8 (bk : Int), .int .i64 bi, .string bz]) (t := 25) (fr := (0, 0)) (List.mem_cons_of_mem _ (List.mem_cons_self ..)) (0); have t1 : u3.cell? ⟨w.heap.size + 1, 1, none⟩ = some (.int .i64 bi) := HL.out.cell (b := w.heap.size + 1) (cs := #[.int .u8 (bk : Int), .int .i64 bi, .string bz]) (t := 25) (fr := (0, 0)) (List.mem_cons_of_mem _ (List.mem_cons_self ..)) (1); have t2 : u3.cell? ⟨w.heap.size + 1, 2, none⟩ = some (.string bz) := HL.out.cell (b := w.heap.size + 1) (cs := #[.int .u8 (bk : Int), .int .i64 bi, .string bz]) (t := 25) (fr := (0, 0)) (List.mem_cons_of_mem _ (List.mem_cons_self ..)) (2); have t3 : u3.cell? ⟨w.heap.size, 0, none⟩ = some (.int .u8 (ak : Int)) := HL.out.cell (b := w.heap.size) (cs := #[.int .u8 (ak : Int), .int .i64 ai, .string az]) (t := 25) (fr := (0, 0)) (List.mem_cons_of_mem _ (List.mem_cons_of_mem _ (List.mem_cons_self ..))) (0); have t4 : u3.cell? ⟨w.heap.size, 1, none⟩ = some (.int .i64 ai) := HL.out.cell (b := w.heap.size) (cs := #[.int .u8 (ak : Int), .int .i64 ai, .string az]) (t := 25) (fr := (0, 0)) (List.mem_cons_of_mem _ (List.mem_cons_of_mem _ (List.mem_cons_self ..))) (1); have t5 : u3.cell? ⟨w.heap.size, 2, none⟩ = some (.string az) := HL.out.cell (b := w.heap.size) (cs := #[.int .u8 (ak : Int), .int .i64 ai, .string az]) (t := 25) (fr := (0, 0)) (List.mem_cons_of_mem _ (List.mem_cons_of_mem _ (List.mem_cons_self ..))) (2); have SS := Lib.hid (show _ from (And.intro t0 (And.intro t1 (And.intro t2 (And.intro t3 (And.intro t4 t5)))))); clear t0 t1 t2 t3 t4 t5; have z0 : bu < u3.heap.size := lt_of_block (HL.out.get (b := bu) (o := .cells #[.int .u8 (uk : Int), .int .i64 ui, .string ⟨#[]⟩] 25 (0, 0)) (List.mem_cons_self ..)); have z1 : w.heap.size + 1 < u3.heap.size := lt_of_block (HL.out.get (b := w.heap.size + 1) (o := .cells #[.int .u8 (bk : Int), .int .i64 bi, .string bz] 25 (0, 0)) (List.mem_cons_of_mem _ (List.mem_cons_self ..))); have z2 : w.heap.size < u3.heap.size := lt_of_block (HL.out.get (b := w.heap.size) (o := .cells #[.int .u8 (ak : Int), .int .i64 ai, .string az] 25 (0, 0)) (List.mem_cons_of_mem _ (List.mem_cons_of_mem _ (List.mem_cons_self ..)))); have r0 : u3.cell? ⟨_, 0, none⟩ = some (.int .u8 0) := HM.out.cell 0; have r1 : u3.cell? ⟨_, 1, none⟩ = some (.int .i64 0) := HM.out.cell 1; have r2 : u3.cell? ⟨_, 2, none⟩ = some (.string ⟨#[]⟩) := HM.out.cell 2; have f0 : u3.frozen? ⟨_, 0, none⟩ = false := HM.out.free 0; have f1 : u3.frozen? ⟨_, 1, none⟩ = false := HM.out.free 1; have f2 : u3.frozen? ⟨_, 2, none⟩ = false := HM.out.free 2; have z9 : _ < u3.heap.size := lt_of_block HM.out.new)))))
            all_goals (first | (obtain ⟨bx, hx, HO⟩ := endF (.cells #[.int .u8 (vk : Int), .int .i64 vi, .string ⟨#[]⟩] 25 (0, 0)) HM.out; refine ⟨rfl, ?_⟩; (try rw [← hx] at HO); rw [← hx]; exact ⟨bx, rfl, HO⟩) | (obtain ⟨bx, hx, HO⟩ := endZ (.int .u8 (vk : Int)) (.int .i64 vi) (.string ⟨#[]⟩) HM.out; refine ⟨rfl, ?_⟩; (try rw [← hx] at HO); rw [← hx]; exact ⟨bx, rfl, HO⟩))
          intro bv v6 HV
          clear HM HL s0 s1 s2 s3 s4 s5 z0 z1 z2
          clear HU0
          go_wp2_with fail
          have p0 : v6.cell? ⟨bv, 0, none⟩ = some (.int .u8 (vk : Int)) := HV.out.cell (b := bv) (cs := #[.int .u8 (vk : Int), .int .i64 vi, .string ⟨#[]⟩]) (t := 25) (fr := (0, 0)) (List.mem_cons_self ..) (0)
          have p1 : v6.cell? ⟨bv, 1, none⟩ = some (.int .i64 vi) := HV.out.cell (b := bv) (cs := #[.int .u8 (vk : Int), .int .i64 vi, .string ⟨#[]⟩]) (t := 25) (fr := (0, 0)) (List.mem_cons_self ..) (1)
          have p2 : v6.cell? ⟨bv, 2, none⟩ = some (.string ⟨#[]⟩) := HV.out.cell (b := bv) (cs := #[.int .u8 (vk : Int), .int .i64 vi, .string ⟨#[]⟩]) (t := 25) (fr := (0, 0)) (List.mem_cons_self ..) (2)
          have p3 : v6.cell? ⟨bu, 0, none⟩ = some (.int .u8 (uk : Int)) := HV.out.cell (b := bu) (cs := #[.int .u8 (uk : Int), .int .i64 ui, .string ⟨#[]⟩]) (t := 25) (fr := (0, 0)) (List.mem_cons_of_mem _ (List.mem_cons_self ..)) (0)
          have p4 : v6.cell? ⟨bu, 1, none⟩ = some (.int .i64 ui) := HV.out.cell (b := bu) (cs := #[.int .u8 (uk : Int), .int .i64 ui, .string ⟨#[]⟩]) (t := 25) (fr := (0, 0)) (List.mem_cons_of_mem _ (List.mem_cons_self ..)) (1)
          have p5 : v6.cell? ⟨bu, 2, none⟩ = some (.string ⟨#[]⟩) := HV.out.cell (b := bu) (cs := #[.int .u8 (uk : Int), .int .i64 ui, .string ⟨#[]⟩]) (t := 25) (fr := (0, 0)) (List.mem_cons_of_mem _ (List.mem_cons_self ..)) (2)
          have q0 := bwOf_cell v6 _ _ p0
          have q1 := bwOf_cell v6 _ _ p1
          have q2 := bwOf_cell v6 _ _ p2
          have q3 := bwOf_cell v6 _ _ p3
          have q4 := bwOf_cell v6 _ _ p4
          have q5 := bwOf_cell v6 _ _ p5
          clear p0 p1 p2 p3 p4 p5
          refine wp_region_bw (w := v6) (by kernel_rfl) (by kernel_rfl) ?_
          repeat (go_big_quiet_step (fail))
          go_big_quiet_step ((go_at_call 14; exact below_of (turned_is uk ui _ vk vi _ ukb ui0 ui1 Kuv.out _)))
          repeat (go_big_quiet_step (fail))
          refine wpQuiet_nil ?_
          rintro v7 ⟨m, rfl⟩
          have HZ7 := Lib.hid (HV.out.kept (bwOf_below v6 m))
          clear q0 q1 q2 q3 q4 q5
          generalize bwOf v6 m = v7 at *
          go_wp2
          go_ret
          exact ⟨rfl, HZ7.out.below⟩
theorem walk_ValuesNot (ak : Int) (ai : Int) (az : ByteArray) (hak : (Lit.int .u8 ak).wf = true) (hai : (Lit.int .i64 ai).wf = true) (haz : az.size ≤ 140737488351232) (bk : Int) (bi : Int) (bz : ByteArray) (hbk : (Lit.int .u8 bk).wf = true) (hbi : (Lit.int .i64 bi).wf = true) (hbz : bz.size ≤ 140737488351232) {w : World} (hw : Wd w) :
    Calls Tryd.prog 5 #[.agg #[.int .u8 ak, .int .i64 ai, .string az], .agg #[.int .u8 bk, .int .i64 bi, .string bz]] w fun e w' => e = .returned (.bool true) ∧ Below w.heap.size w w' := by
  have k0 := wf_u8 hak
  have k1 := wf_u8 hbk
  have i0 := wf_i64 hai
  have i1 := wf_i64 hbi
  obtain ⟨ak, rfl⟩ := Int.eq_ofNat_of_zero_le k0.1
  obtain ⟨bk, rfl⟩ := Int.eq_ofNat_of_zero_le k1.1
  cases hbig : decide ((20000 : Int) < (az.size : Int) + (bz.size : Int)) with
  | true => exact not_long ak (by omega) ai i0.1 i0.2 az haz bk (by omega) bi i1.1 i1.2 bz hbz hbig w hw
  | false =>
    cases hfine : (Val.fine ⟨ak, ai, az⟩ && Val.fine ⟨bk, bi, bz⟩) with
    | false => exact not_not ak (by omega) ai i0.1 i0.2 az haz bk (by omega) bi i1.1 i1.2 bz hbz hbig hfine w hw
    | true =>
      have hf := hfine
      rw [Bool.and_eq_true] at hf
      exact not_body ak (by omega) ai i0.1 i0.2 az haz bk (by omega) bi i1.1 i1.2 bz hbz hbig hfine hf.1 hf.2 w hw
end Go.Proofs.YtjjfmmimmfihgaaDoor
