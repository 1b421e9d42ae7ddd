/-
  WHAT IS PROVED: an expression may be as deep as there is said, and no deeper: the walk.
-/
import Derived.Test.YtenmnpbjnbdeaaaGreatDoorNf
import Derived.Test.YtenmnpbjnbdeaaaGreatDoorQTrDp
import Derived.Deep.RegionWith
namespace Go.Proofs.YtenmnpbjnbdeaaaGreatDoor
open Go.RowKit Go.Shelf
set_option linter.unusedVariables false

theorem strU_cat8 (a b : List UInt8) : strU a ++ strU b = strU (a ++ b) := by
  have h : ∀ x y : ByteArray, x.data.toList = y.data.toList → x = y := by
    intro x y h
    rw [← strU_of x, ← strU_of y, h]
  apply h
  rw [ByteArray.data_append, Array.toList_append]
  simp [strU_data]
set_option maxHeartbeats 1000000 in
theorem one_P (op : Nat) (x : Ex) (u : Value) (P : Nat → Prop) (w : World) (hs : REs P w u x.l) (hP : ∀ k, w.heap.size ≤ k → P k) : Calls Tryz.prog 23 #[.int .u8 (op : Int), exVal x.a u] w fun e w' => ∃ v, e = .returned (exVal (oneE op x).a v) ∧ REs P w' v (oneE op x).l ∧ Below w.heap.size w w' := by
  have h1 := hs.one
  have HS := Lib.hid hs
  unfold exVal
  clear hs
  go_enter Tryz.func23, Tryz.ntmps23
  go_wp2
  refine bodyPost_ret (ex_results (R := w.heap.size + 1) (a := (oneE op x).a) (u := .slice (some ⟨w.heap.size + 1 + 1, 0, none⟩) 1 1) Tryz.results23 ((heap_alloc_old _ _ (by simp)).trans (alloc_at (by simp))) rfl) rfl ⟨_, rfl, ?_, below_three _ _ _ _⟩
  exact REs.of_block (us := [u]) (l := [x]) (alloc_at (by simp)) rfl ⟨HS.out.below (below_three _ _ _ _), trivial⟩ (hP _ (by omega)) (by simp) 1 rfl
set_option maxHeartbeats 1000000 in
theorem two_P (op : Nat) (x y : Ex) (u v : Value) (P : Nat → Prop) (w : World) (hs : REs P w u x.l) (hv : REs P w v y.l) (hP : ∀ k, w.heap.size ≤ k → P k) : Calls Tryz.prog 17 #[.int .u8 (op : Int), exVal x.a u, exVal y.a v] w fun e w' => ∃ z, e = .returned (exVal (twoE op x y).a z) ∧ REs P w' z (twoE op x y).l ∧ Below w.heap.size w w' := by
  have h1 := hs.one
  have h2 := hv.one
  have HS := Lib.hid hs
  have HV := Lib.hid hv
  unfold exVal
  clear hs hv
  go_enter Tryz.func17, Tryz.ntmps17
  go_wp2
  refine bodyPost_ret (ex_results (R := w.heap.size + 1 + 1) (a := (twoE op x y).a) (u := .slice (some ⟨w.heap.size + 1 + 1 + 1, 0, none⟩) 2 2) Tryz.results17 ((heap_alloc_old _ _ (by simp)).trans (alloc_at (by simp))) rfl) rfl ⟨_, rfl, ?_, below_four _ _ _ _ _⟩
  exact REs.of_block (us := [u, v]) (l := [x, y]) (alloc_at (by simp)) rfl ⟨HS.out.below (below_four _ _ _ _ _), HV.out.below (below_four _ _ _ _ _), trivial⟩ (hP _ (by omega)) (by simp) 2 rfl
/-- where the loop stands: the expression so far, in block B -/
structure DeepAt (w wr : World) (B : Nat) (x : Ex) (u : Value) : Prop where
  lo : w.heap.size ≤ B
  blk : ExB wr B x.a u
  held : REs (B < ·) wr u x.l
  below : Below w.heap.size w wr
theorem DeepAt.next {w wr w2 : World} {B : Nat} {x y : Ex} {u v : Value} (h : DeepAt w wr B x u) (hb : Below wr.heap.size wr w2) (hs : REs (B < ·) w2 v y.l) : DeepAt w (w2.setRow B (exArr y.a v)) B y v := by
  have hB := h.blk.lt
  refine ⟨h.lo, ExB.set ((hb.block B hB).trans h.blk) y.a v, hs.turn (Turn.setRow (· = B) _ _ _ rfl) (fun k hk e => by have hk' : B < k := hk; omega), ?_⟩
  have := h.lo
  exact ((Turn.of_below (h.below.trans (hb.mono h.below.size)) : Turn (· = B) w w2).trans (Turn.setRow (· = B) _ _ _ rfl)).below (fun k hk e => by omega)
set_option maxRecDepth 100000 in
set_option maxHeartbeats 16000000 in
theorem deep_0 (N M J : Nat) (w : World) (hw : Wo w) (hN : N ≤ 255) (hM : M ≤ 255) (hJ : N % 10 = J) (hc : M % 5 = 0) (hJ10 : J < 10) :
    Calls Tryz.prog 9 #[.int .u8 (N : Int), .int .u8 (M : Int)] w fun e w' => e = .returned (.bool true) ∧ Below w.heap.size w w' := by
  obtain ⟨k, hk⟩ : ∃ k, k = 18 + J := ⟨_, rfl⟩
  have e1 : (18 : Int) + ((N : Int) % 10) = (k : Int) := by omega
  have e2 : ((M : Int) % 5) = 0 := by omega
  have HJ := Lib.hid (And.intro hk hJ10)
  have hk2 : 18 ≤ k ∧ k ≤ 27 := by omega
  obtain ⟨hk18, hk27⟩ := hk2
  clear hJ hc hk hJ10
  go_enter Tryz.func9, Tryz.ntmps9
  go_wp2_with fail
  refine (col_any [97] _).mono ?_
  rintro e w1 ⟨rfl, hb⟩
  obtain ⟨B, hB⟩ : ∃ B, B = w1.heap.size := ⟨_, rfl⟩
  obtain ⟨w2, hw2⟩ : ∃ w2, w2 = (w1.alloc (.cells zeroE 36)).setRow w1.heap.size (exArr (colE [] [97]).a nS) := ⟨_, rfl⟩
  have HD0 : Hid (DeepAt w w2 B (deepX 0 0) nS) := Lib.hid (by
    rw [hw2, hB]
    exact ⟨hb.size, ExB.set (heap_alloc_new _ _) _ _, REs.nil _ _, Below.laid hb hb.size _ _⟩)
  clear hb
  go_wp2_with (refine wpList_store_ex rfl _ _ rfl w1.heap.size (colE [] [97]).a nS rfl rfl rfl _ (heap_alloc_new _ _) rfl ?_; rw [show (w1.alloc (.cells zA 36)).setRow w1.heap.size (exArr (colE [] [97]).a nS) = w2 from hw2.symm, ← hB]; clear hw2 hB)
  go_loopw [6, 8] (fun sv iv wr => ∃ (i j : Nat) (u : Value), i = j + 1 ∧ i ≤ k ∧ iv = .int .i64 (i : Int) ∧ sv = .string (strU (deepT 0 j)) ∧ Hid (DeepAt w wr B (deepX 0 j) u)) (fun _ iv _ => k - (RowKit.intOf iv).toNat)
  case atStart => exact ⟨1, 0, _, rfl, by omega, rfl, rfl, HD0⟩
  case round =>
    obtain ⟨i, j, u, hij, hik, rfl, rfl, HD⟩ := hrel
    by_cases hlt : i < k
    · have hj : j ≤ 27 := by omega
      have hsz : (strU (deepT 0 j)).size ≤ 400 := by rw [strU_size]; have := deepT_len 0 j; omega
      obtain ⟨p, hp⟩ : ∃ p, (strU (deepT 0 j)).size = p := ⟨_, rfl⟩
      rw [hp] at hsz
      have z1 : ¬ 9223372036854775807 < 4 + p := by omega
      have ez : (⟨#[78, 79, 84, 32]⟩ : ByteArray) ++ strU (deepT 0 j) = strU (deepT 0 (j + 1)) := by
        rw [show (⟨#[78, 79, 84, 32]⟩ : ByteArray) = strU [78, 79, 84, 32] from rfl, strU_cat8]
        rfl
      have hC := one_P 2 (deepX 0 j) u (B < ·) wr HD.out.held (fun k hk => Nat.lt_of_lt_of_le HD.out.blk.lt hk)
      go_wp2_with (refine wpList_load_row rfl 36 _ rfl B rfl _ (exArr (deepX 0 j).a u) (0, 0) _ HD.out.blk Tryz.underlying36 rfl (by kernel_rfl) ?_)
      refine hC.mono ?_
      rintro e w2 ⟨v, rfl, hs, hb⟩
      have HN := Lib.hid (HD.out.next (y := deepX 0 (j + 1)) hb hs)
      have HO := Lib.hid ((hb.block B HD.out.blk.lt).trans HD.out.blk)
      have hu := hs.one
      clear hs hb hC
      go_wp2_with (refine wpList_store_ex rfl _ _ rfl B (deepX 0 (j + 1)).a v rfl rfl hu _ HO.out rfl ?_)
      go_roundw
      case rel => exact ⟨i + 1, j + 1, _, by omega, by omega, by go_num, rfl, HN⟩
      case measure => simp only [RowKit.intOf]; omega
    · obtain ⟨hkJ, hJ10⟩ := HJ.out
      have hjJ : j = 17 + J := by omega
      have HH := Lib.hid (HD.out.held.mono (Q := fun _ => True) (fun _ _ _ => trivial))
      have hslt : ∃ ao n cc, u = .slice ao n cc := HD.out.held.slice
      by_cases hle : 18 + J ≤ 24
      · obtain ⟨hE, hCk⟩ := deep_yes (c := 0) (by decide) hJ10 hle
        rw [← hjJ] at hE hCk
        have hkle : (i : Int) ≤ 24 := by omega
        have hik2 : (k : Int) ≤ 24 := by omega
        have HA := alive_yes7 wr (hw.kept HD.out.below)
        obtain ⟨ao, un, uc, rfl⟩ := hslt
        clear hle hjJ hkJ hJ10
        go_wp2_with fail
        refine HA.mono ?_
        rintro e w3 ⟨rfl, hb⟩
        have HB3 := Lib.hid (HD.out.below.trans (hb.mono HD.out.below.size))
        have HX3 := Lib.hid ((hb.block B HD.out.blk.lt).trans HD.out.blk)
        have HH3 := Lib.hid (HH.out.below hb)
        have hC := is_yes (strU (deepT 0 j)) _ (by rw [strU_data]; exact hE) (.slice ao un uc) w3 (hw.kept HB3.out) HH3.out
        unfold exVal at hC
        clear hb HA
        go_wp2_with (refine wpListG_load_row rfl 36 _ rfl B rfl _ (eA ((deepX 0 j).a) (.slice ao un uc)) (0, 0) _ HX3.out Tryz.underlying36 rfl (by kernel_rfl) ?_)
        refine hC.mono ?_
        rintro e w4 ⟨rfl, hb⟩
        have HB4 := Lib.hid (HB3.out.trans (hb.mono HB3.out.size))
        have HX4 := Lib.hid ((hb.block B (bk_lt HX3.out)).trans HX3.out)
        have HH4 := Lib.hid (HH3.out.below hb)
        have hQ := check_may (delS (deepX 0 j)) nS nS nS nS nS (.slice ao un uc) nS nS nS w4 ⟨.inl ⟨rfl, rfl⟩, .inl ⟨rfl, rfl⟩, .inl ⟨rfl, rfl⟩, .inl ⟨rfl, rfl⟩, .inl ⟨rfl, rfl⟩, HH4.out, .inl ⟨rfl, rfl⟩, REs.nil _ _, .inl ⟨rfl, rfl⟩⟩ (delS_all (Q := Sh) (by unfold Sh; simp) (by unfold Sh; simp) (deepX_all (Q := Sh) (by unfold Sh; simp) (by unfold Sh; simp) (by unfold Sh; simp) 0 j))
        rw [hCk] at hQ
        clear hb hC
        go_wp2_with (refine wpListG_load_row rfl 36 _ rfl B rfl _ (eA ((deepX 0 j).a) (.slice ao un uc)) (0, 0) _ HX4.out Tryz.underlying36 rfl (by kernel_rfl) ?_)
        refine hQ.mono ?_
        rintro e w5 ⟨rfl, hb⟩
        have HB5 := Lib.hid (HB4.out.trans (hb.mono HB4.out.size))
        clear hb hQ
        go_wp2_with fail
        go_ret
        exact ⟨rfl, HB5.out⟩
      · obtain ⟨hE, hS, hCk⟩ := deep_no (c := 0) (by decide) hJ10 hle
        rw [← hjJ] at hE hS hCk
        have hkle : ¬ (i : Int) ≤ 24 := by omega
        have hik2 : ¬ (k : Int) ≤ 24 := by omega
        obtain ⟨ao, un, uc, rfl⟩ := hslt
        have hsz : (strU (deepT 0 j)).size ≤ 400 := by rw [strU_size]; have := deepT_len 0 j; omega
        obtain ⟨p, hp⟩ : ∃ p, (strU (deepT 0 j)).size = p := ⟨_, rfl⟩
        rw [hp] at hsz
        have z1 : ¬ 9223372036854775807 < 20 + p := by omega
        have ez : (⟨#[68, 69, 76, 69, 84, 69, 32, 70, 82, 79, 77, 32, 116, 32, 87, 72, 69, 82, 69, 32]⟩ : ByteArray) ++ strU (deepT 0 j) = strU ([68, 69, 76, 69, 84, 69, 32, 70, 82, 79, 77, 32, 116, 32, 87, 72, 69, 82, 69, 32] ++ deepT 0 j) := by
          rw [show (⟨#[68, 69, 76, 69, 84, 69, 32, 70, 82, 79, 77, 32, 116, 32, 87, 72, 69, 82, 69, 32]⟩ : ByteArray) = strU [68, 69, 76, 69, 84, 69, 32, 70, 82, 79, 77, 32, 116, 32, 87, 72, 69, 82, 69, 32] from rfl, strU_cat8]
        have hC := expr_any (strU (deepT 0 j)) wr (hw.kept HD.out.below)
        rw [strU_data, hE] at hC
        unfold TellsX exVal noA at hC
        clear hle hjJ hkJ hJ10
        go_wp2_with fail
        refine hC.mono ?_
        rintro e w3 ⟨⟨_, rfl⟩, hb⟩
        obtain ⟨w4, hw4⟩ : ∃ w4, w4 = w3.alloc (.cells #[.int .u8 0, .int .u8 0, .string (strU []), .string (strU []), .int .u8 0, .int .i64 0, .string (strU []), .bool false, .slice none 0 0] 36) := ⟨_, rfl⟩
        have hb4 : Below w3.heap.size w3 w4 := by rw [hw4]; exact below_alloc _ _
        have hb34 := hb.trans (hb4.mono hb.size)
        have HB4 := Lib.hid (HD.out.below.trans (hb34.mono HD.out.below.size))
        have HX4 := Lib.hid ((hb34.block B HD.out.blk.lt).trans HD.out.blk)
        have HH4 := Lib.hid (HH.out.below hb34)
        have hO := stmt_any (strU ([68, 69, 76, 69, 84, 69, 32, 70, 82, 79, 77, 32, 116, 32, 87, 72, 69, 82, 69, 32] ++ deepT 0 j)) w4 (hw.kept HB4.out)
        rw [strU_data, hS] at hO
        unfold TellsS stZero at hO
        clear hb hb4 hb34 hC
        go_wp2_with (rw [← hw4]; clear hw4)
        refine hO.mono ?_
        rintro e w5 ⟨⟨_, rfl⟩, hb⟩
        obtain ⟨w6, hw6⟩ : ∃ w6, w6 = (w5.alloc (.cells (s00 0 z0 z0 nS nS nS nS nS nS nS 0 0) 39)).setRow w5.heap.size (s00 0 z0 z0 nS nS nS nS nS nS nS 0 0) := ⟨_, rfl⟩
        have hb6 : Below w5.heap.size w5 w6 := by rw [hw6]; exact Below.laid (Below.refl _ _) (Nat.le_refl _) _ _
        have hb56 := hb.trans (hb6.mono hb.size)
        have HB6 := Lib.hid (HB4.out.trans (hb56.mono HB4.out.size))
        have HX6 := Lib.hid ((hb56.block B (bk_lt HX4.out)).trans HX4.out)
        have HH6 := Lib.hid (HH4.out.below hb56)
        have HA := alive_yes7 w6 (hw.kept HB6.out)
        clear hb hb6 hb56 hO
        go_wp2_with (refine wpList_store_row rfl 39 _ _ rfl w5.heap.size (s00 0 z0 z0 nS nS nS nS nS nS nS 0 0) rfl rfl _ _ (heap_alloc_new _ _) (by kernel_rfl) rfl (by simp [Value.oneCell']) ?_; rw [← hw6]; clear hw6)
        refine HA.mono ?_
        rintro e w7 ⟨rfl, hb⟩
        have HB7 := Lib.hid (HB6.out.trans (hb.mono HB6.out.size))
        have HX7 := Lib.hid ((hb.block B (bk_lt HX6.out)).trans HX6.out)
        have HH7 := Lib.hid (HH6.out.below hb)
        have hQ := check_may (delS (deepX 0 j)) nS nS nS nS nS (.slice ao un uc) nS nS nS w7 ⟨.inl ⟨rfl, rfl⟩, .inl ⟨rfl, rfl⟩, .inl ⟨rfl, rfl⟩, .inl ⟨rfl, rfl⟩, .inl ⟨rfl, rfl⟩, HH7.out, .inl ⟨rfl, rfl⟩, REs.nil _ _, .inl ⟨rfl, rfl⟩⟩ (delS_all (Q := Sh) (by unfold Sh; simp) (by unfold Sh; simp) (deepX_all (Q := Sh) (by unfold Sh; simp) (by unfold Sh; simp) (by unfold Sh; simp) 0 j))
        rw [hCk] at hQ
        clear hb HA
        go_wp2_with (refine wpListG_load_row rfl 36 _ rfl B rfl _ (eA ((deepX 0 j).a) (.slice ao un uc)) (0, 0) _ HX7.out Tryz.underlying36 rfl (by kernel_rfl) ?_)
        refine hQ.mono ?_
        rintro e w8 ⟨rfl, hb⟩
        have HB8 := Lib.hid (HB7.out.trans (hb.mono HB7.out.size))
        clear hb hQ
        go_wp2_with fail
        go_ret
        exact ⟨rfl, HB8.out⟩
set_option maxRecDepth 100000 in
set_option maxHeartbeats 16000000 in
theorem deep_1 (N M J : Nat) (w : World) (hw : Wo w) (hN : N ≤ 255) (hM : M ≤ 255) (hJ : N % 10 = J) (hc : M % 5 = 1) (hJ10 : J < 10) :
    Calls Tryz.prog 9 #[.int .u8 (N : Int), .int .u8 (M : Int)] w fun e w' => e = .returned (.bool true) ∧ Below w.heap.size w w' := by
  obtain ⟨k, hk⟩ : ∃ k, k = 18 + J := ⟨_, rfl⟩
  have e1 : (18 : Int) + ((N : Int) % 10) = (k : Int) := by omega
  have e2 : ((M : Int) % 5) = 1 := by omega
  have HJ := Lib.hid (And.intro hk hJ10)
  have hk2 : 18 ≤ k ∧ k ≤ 27 := by omega
  obtain ⟨hk18, hk27⟩ := hk2
  clear hJ hc hk hJ10
  go_enter Tryz.func9, Tryz.ntmps9
  go_wp2_with fail
  refine (col_any [97] _).mono ?_
  rintro e w1 ⟨rfl, hb⟩
  obtain ⟨B, hB⟩ : ∃ B, B = w1.heap.size := ⟨_, rfl⟩
  obtain ⟨w2, hw2⟩ : ∃ w2, w2 = (w1.alloc (.cells zeroE 36)).setRow w1.heap.size (exArr (colE [] [97]).a nS) := ⟨_, rfl⟩
  have HD0 : Hid (DeepAt w w2 B (deepX 1 0) nS) := Lib.hid (by
    rw [hw2, hB]
    exact ⟨hb.size, ExB.set (heap_alloc_new _ _) _ _, REs.nil _ _, Below.laid hb hb.size _ _⟩)
  clear hb
  go_wp2_with (refine wpList_store_ex rfl _ _ rfl w1.heap.size (colE [] [97]).a nS rfl rfl rfl _ (heap_alloc_new _ _) rfl ?_; rw [show (w1.alloc (.cells zA 36)).setRow w1.heap.size (exArr (colE [] [97]).a nS) = w2 from hw2.symm, ← hB]; clear hw2 hB)
  go_loopw [6, 8] (fun sv iv wr => ∃ (i j : Nat) (u : Value), i = j + 1 ∧ i ≤ k ∧ iv = .int .i64 (i : Int) ∧ sv = .string (strU (deepT 1 j)) ∧ Hid (DeepAt w wr B (deepX 1 j) u)) (fun _ iv _ => k - (RowKit.intOf iv).toNat)
  case atStart => exact ⟨1, 0, _, rfl, by omega, rfl, rfl, HD0⟩
  case round =>
    obtain ⟨i, j, u, hij, hik, rfl, rfl, HD⟩ := hrel
    by_cases hlt : i < k
    · have hj : j ≤ 27 := by omega
      have hsz : (strU (deepT 1 j)).size ≤ 400 := by rw [strU_size]; have := deepT_len 1 j; omega
      obtain ⟨p, hp⟩ : ∃ p, (strU (deepT 1 j)).size = p := ⟨_, rfl⟩
      rw [hp] at hsz
      have z1 : ¬ 9223372036854775807 < 2 + p := by omega
      have ez : (⟨#[45, 32]⟩ : ByteArray) ++ strU (deepT 1 j) = strU (deepT 1 (j + 1)) := by
        rw [show (⟨#[45, 32]⟩ : ByteArray) = strU [45, 32] from rfl, strU_cat8]
        rfl
      have hC := one_P 1 (deepX 1 j) u (B < ·) wr HD.out.held (fun k hk => Nat.lt_of_lt_of_le HD.out.blk.lt hk)
      go_wp2_with (refine wpList_load_row rfl 36 _ rfl B rfl _ (exArr (deepX 1 j).a u) (0, 0) _ HD.out.blk Tryz.underlying36 rfl (by kernel_rfl) ?_)
      refine hC.mono ?_
      rintro e w2 ⟨v, rfl, hs, hb⟩
      have HN := Lib.hid (HD.out.next (y := deepX 1 (j + 1)) hb hs)
      have HO := Lib.hid ((hb.block B HD.out.blk.lt).trans HD.out.blk)
      have hu := hs.one
      clear hs hb hC
      go_wp2_with (refine wpList_store_ex rfl _ _ rfl B (deepX 1 (j + 1)).a v rfl rfl hu _ HO.out rfl ?_)
      go_roundw
      case rel => exact ⟨i + 1, j + 1, _, by omega, by omega, by go_num, rfl, HN⟩
      case measure => simp only [RowKit.intOf]; omega
    · obtain ⟨hkJ, hJ10⟩ := HJ.out
      have hjJ : j = 17 + J := by omega
      have HH := Lib.hid (HD.out.held.mono (Q := fun _ => True) (fun _ _ _ => trivial))
      have hslt : ∃ ao n cc, u = .slice ao n cc := HD.out.held.slice
      by_cases hle : 18 + J ≤ 24
      · obtain ⟨hE, hCk⟩ := deep_yes (c := 1) (by decide) hJ10 hle
        rw [← hjJ] at hE hCk
        have hkle : (i : Int) ≤ 24 := by omega
        have hik2 : (k : Int) ≤ 24 := by omega
        have HA := alive_yes7 wr (hw.kept HD.out.below)
        obtain ⟨ao, un, uc, rfl⟩ := hslt
        clear hle hjJ hkJ hJ10
        go_wp2_with fail
        refine HA.mono ?_
        rintro e w3 ⟨rfl, hb⟩
        have HB3 := Lib.hid (HD.out.below.trans (hb.mono HD.out.below.size))
        have HX3 := Lib.hid ((hb.block B HD.out.blk.lt).trans HD.out.blk)
        have HH3 := Lib.hid (HH.out.below hb)
        have hC := is_yes (strU (deepT 1 j)) _ (by rw [strU_data]; exact hE) (.slice ao un uc) w3 (hw.kept HB3.out) HH3.out
        unfold exVal at hC
        clear hb HA
        go_wp2_with (refine wpListG_load_row rfl 36 _ rfl B rfl _ (eA ((deepX 1 j).a) (.slice ao un uc)) (0, 0) _ HX3.out Tryz.underlying36 rfl (by kernel_rfl) ?_)
        refine hC.mono ?_
        rintro e w4 ⟨rfl, hb⟩
        have HB4 := Lib.hid (HB3.out.trans (hb.mono HB3.out.size))
        have HX4 := Lib.hid ((hb.block B (bk_lt HX3.out)).trans HX3.out)
        have HH4 := Lib.hid (HH3.out.below hb)
        have hQ := check_may (delS (deepX 1 j)) nS nS nS nS nS (.slice ao un uc) nS nS nS w4 ⟨.inl ⟨rfl, rfl⟩, .inl ⟨rfl, rfl⟩, .inl ⟨rfl, rfl⟩, .inl ⟨rfl, rfl⟩, .inl ⟨rfl, rfl⟩, HH4.out, .inl ⟨rfl, rfl⟩, REs.nil _ _, .inl ⟨rfl, rfl⟩⟩ (delS_all (Q := Sh) (by unfold Sh; simp) (by unfold Sh; simp) (deepX_all (Q := Sh) (by unfold Sh; simp) (by unfold Sh; simp) (by unfold Sh; simp) 1 j))
        rw [hCk] at hQ
        clear hb hC
        go_wp2_with (refine wpListG_load_row rfl 36 _ rfl B rfl _ (eA ((deepX 1 j).a) (.slice ao un uc)) (0, 0) _ HX4.out Tryz.underlying36 rfl (by kernel_rfl) ?_)
        refine hQ.mono ?_
        rintro e w5 ⟨rfl, hb⟩
        have HB5 := Lib.hid (HB4.out.trans (hb.mono HB4.out.size))
        clear hb hQ
        go_wp2_with fail
        go_ret
        exact ⟨rfl, HB5.out⟩
      · obtain ⟨hE, hS, hCk⟩ := deep_no (c := 1) (by decide) hJ10 hle
        rw [← hjJ] at hE hS hCk
        have hkle : ¬ (i : Int) ≤ 24 := by omega
        have hik2 : ¬ (k : Int) ≤ 24 := by omega
        obtain ⟨ao, un, uc, rfl⟩ := hslt
        have hsz : (strU (deepT 1 j)).size ≤ 400 := by rw [strU_size]; have := deepT_len 1 j; omega
        obtain ⟨p, hp⟩ : ∃ p, (strU (deepT 1 j)).size = p := ⟨_, rfl⟩
        rw [hp] at hsz
        have z1 : ¬ 9223372036854775807 < 20 + p := by omega
        have ez : (⟨#[68, 69, 76, 69, 84, 69, 32, 70, 82, 79, 77, 32, 116, 32, 87, 72, 69, 82, 69, 32]⟩ : ByteArray) ++ strU (deepT 1 j) = strU ([68, 69, 76, 69, 84, 69, 32, 70, 82, 79, 77, 32, 116, 32, 87, 72, 69, 82, 69, 32] ++ deepT 1 j) := by
          rw [show (⟨#[68, 69, 76, 69, 84, 69, 32, 70, 82, 79, 77, 32, 116, 32, 87, 72, 69, 82, 69, 32]⟩ : ByteArray) = strU [68, 69, 76, 69, 84, 69, 32, 70, 82, 79, 77, 32, 116, 32, 87, 72, 69, 82, 69, 32] from rfl, strU_cat8]
        have hC := expr_any (strU (deepT 1 j)) wr (hw.kept HD.out.below)
        rw [strU_data, hE] at hC
        unfold TellsX exVal noA at hC
        clear hle hjJ hkJ hJ10
        go_wp2_with fail
        refine hC.mono ?_
        rintro e w3 ⟨⟨_, rfl⟩, hb⟩
        obtain ⟨w4, hw4⟩ : ∃ w4, w4 = w3.alloc (.cells #[.int .u8 0, .int .u8 0, .string (strU []), .string (strU []), .int .u8 0, .int .i64 0, .string (strU []), .bool false, .slice none 0 0] 36) := ⟨_, rfl⟩
        have hb4 : Below w3.heap.size w3 w4 := by rw [hw4]; exact below_alloc _ _
        have hb34 := hb.trans (hb4.mono hb.size)
        have HB4 := Lib.hid (HD.out.below.trans (hb34.mono HD.out.below.size))
        have HX4 := Lib.hid ((hb34.block B HD.out.blk.lt).trans HD.out.blk)
        have HH4 := Lib.hid (HH.out.below hb34)
        have hO := stmt_any (strU ([68, 69, 76, 69, 84, 69, 32, 70, 82, 79, 77, 32, 116, 32, 87, 72, 69, 82, 69, 32] ++ deepT 1 j)) w4 (hw.kept HB4.out)
        rw [strU_data, hS] at hO
        unfold TellsS stZero at hO
        clear hb hb4 hb34 hC
        go_wp2_with (rw [← hw4]; clear hw4)
        refine hO.mono ?_
        rintro e w5 ⟨⟨_, rfl⟩, hb⟩
        obtain ⟨w6, hw6⟩ : ∃ w6, w6 = (w5.alloc (.cells (s00 0 z0 z0 nS nS nS nS nS nS nS 0 0) 39)).setRow w5.heap.size (s00 0 z0 z0 nS nS nS nS nS nS nS 0 0) := ⟨_, rfl⟩
        have hb6 : Below w5.heap.size w5 w6 := by rw [hw6]; exact Below.laid (Below.refl _ _) (Nat.le_refl _) _ _
        have hb56 := hb.trans (hb6.mono hb.size)
        have HB6 := Lib.hid (HB4.out.trans (hb56.mono HB4.out.size))
        have HX6 := Lib.hid ((hb56.block B (bk_lt HX4.out)).trans HX4.out)
        have HH6 := Lib.hid (HH4.out.below hb56)
        have HA := alive_yes7 w6 (hw.kept HB6.out)
        clear hb hb6 hb56 hO
        go_wp2_with (refine wpList_store_row rfl 39 _ _ rfl w5.heap.size (s00 0 z0 z0 nS nS nS nS nS nS nS 0 0) rfl rfl _ _ (heap_alloc_new _ _) (by kernel_rfl) rfl (by simp [Value.oneCell']) ?_; rw [← hw6]; clear hw6)
        refine HA.mono ?_
        rintro e w7 ⟨rfl, hb⟩
        have HB7 := Lib.hid (HB6.out.trans (hb.mono HB6.out.size))
        have HX7 := Lib.hid ((hb.block B (bk_lt HX6.out)).trans HX6.out)
        have HH7 := Lib.hid (HH6.out.below hb)
        have hQ := check_may (delS (deepX 1 j)) nS nS nS nS nS (.slice ao un uc) nS nS nS w7 ⟨.inl ⟨rfl, rfl⟩, .inl ⟨rfl, rfl⟩, .inl ⟨rfl, rfl⟩, .inl ⟨rfl, rfl⟩, .inl ⟨rfl, rfl⟩, HH7.out, .inl ⟨rfl, rfl⟩, REs.nil _ _, .inl ⟨rfl, rfl⟩⟩ (delS_all (Q := Sh) (by unfold Sh; simp) (by unfold Sh; simp) (deepX_all (Q := Sh) (by unfold Sh; simp) (by unfold Sh; simp) (by unfold Sh; simp) 1 j))
        rw [hCk] at hQ
        clear hb HA
        go_wp2_with (refine wpListG_load_row rfl 36 _ rfl B rfl _ (eA ((deepX 1 j).a) (.slice ao un uc)) (0, 0) _ HX7.out Tryz.underlying36 rfl (by kernel_rfl) ?_)
        refine hQ.mono ?_
        rintro e w8 ⟨rfl, hb⟩
        have HB8 := Lib.hid (HB7.out.trans (hb.mono HB7.out.size))
        clear hb hQ
        go_wp2_with fail
        go_ret
        exact ⟨rfl, HB8.out⟩
set_option maxRecDepth 100000 in
set_option maxHeartbeats 16000000 in
theorem deep_2 (N M J : Nat) (w : World) (hw : Wo w) (hN : N ≤ 255) (hM : M ≤ 255) (hJ : N % 10 = J) (hc : M % 5 = 2) (hJ10 : J < 10) :
    Calls Tryz.prog 9 #[.int .u8 (N : Int), .int .u8 (M : Int)] w fun e w' => e = .returned (.bool true) ∧ Below w.heap.size w w' := by
  obtain ⟨k, hk⟩ : ∃ k, k = 18 + J := ⟨_, rfl⟩
  have e1 : (18 : Int) + ((N : Int) % 10) = (k : Int) := by omega
  have e2 : ((M : Int) % 5) = 2 := by omega
  have HJ := Lib.hid (And.intro hk hJ10)
  have hk2 : 18 ≤ k ∧ k ≤ 27 := by omega
  obtain ⟨hk18, hk27⟩ := hk2
  clear hJ hc hk hJ10
  go_enter Tryz.func9, Tryz.ntmps9
  go_wp2_with fail
  refine (col_any [97] _).mono ?_
  rintro e w1 ⟨rfl, hb⟩
  obtain ⟨B, hB⟩ : ∃ B, B = w1.heap.size := ⟨_, rfl⟩
  obtain ⟨w2, hw2⟩ : ∃ w2, w2 = (w1.alloc (.cells zeroE 36)).setRow w1.heap.size (exArr (colE [] [97]).a nS) := ⟨_, rfl⟩
  have HD0 : Hid (DeepAt w w2 B (deepX 2 0) nS) := Lib.hid (by
    rw [hw2, hB]
    exact ⟨hb.size, ExB.set (heap_alloc_new _ _) _ _, REs.nil _ _, Below.laid hb hb.size _ _⟩)
  clear hb
  go_wp2_with (refine wpList_store_ex rfl _ _ rfl w1.heap.size (colE [] [97]).a nS rfl rfl rfl _ (heap_alloc_new _ _) rfl ?_; rw [show (w1.alloc (.cells zA 36)).setRow w1.heap.size (exArr (colE [] [97]).a nS) = w2 from hw2.symm, ← hB]; clear hw2 hB)
  go_loopw [6, 8] (fun sv iv wr => ∃ (i j : Nat) (u : Value), i = j + 1 ∧ i ≤ k ∧ iv = .int .i64 (i : Int) ∧ sv = .string (strU (deepT 2 j)) ∧ Hid (DeepAt w wr B (deepX 2 j) u)) (fun _ iv _ => k - (RowKit.intOf iv).toNat)
  case atStart => exact ⟨1, 0, _, rfl, by omega, rfl, rfl, HD0⟩
  case round =>
    obtain ⟨i, j, u, hij, hik, rfl, rfl, HD⟩ := hrel
    by_cases hlt : i < k
    · have hj : j ≤ 27 := by omega
      have hsz : (strU (deepT 2 j)).size ≤ 400 := by rw [strU_size]; have := deepT_len 2 j; omega
      obtain ⟨p, hp⟩ : ∃ p, (strU (deepT 2 j)).size = p := ⟨_, rfl⟩
      rw [hp] at hsz
      have z1 : ¬ 9223372036854775807 < p + 4 := by omega
      have ez : strU (deepT 2 j) ++ ⟨#[32, 43, 32, 49]⟩ = strU (deepT 2 (j + 1)) := by
        rw [show (⟨#[32, 43, 32, 49]⟩ : ByteArray) = strU [32, 43, 32, 49] from rfl, strU_cat8]
        rfl
      obtain ⟨n0, n1, n2, n3, n4, n5, n6, n7, n8⟩ := HD.out.blk.cells
      obtain ⟨ao0, un0, uc0, rfl⟩ := HD.out.held.slice
      go_wp2_with fail
      go_region_with (first
        | (go_at_call 26; refine (num_any 1 _).mono ?_; rintro e w2 ⟨rfl, hb⟩; have hb2 : Below wr.heap.size wr w2 := ((Below.refl _ wr).drew).trans hb; have HB2 := Lib.hid hb2; have hX2 := HD.out.blk.kept hb2; obtain ⟨m0, m1, m2, m3, m4, m5, m6, m7, m8⟩ := hX2.cells; clear hb hb2 hX2)
        | (go_at_call 17; refine (two_P 5 (deepX 2 j) (litE 1 1 []) (.slice ao0 un0 uc0) nS (B < ·) w2 (HD.out.held.below HB2.out) (REs.nil _ _) (fun k hk => Nat.lt_of_lt_of_le HD.out.blk.lt (Nat.le_trans HB2.out.size hk))).mono ?_; rintro e w3 ⟨v, rfl, hs, hb⟩; obtain ⟨vo, vn, vc, rfl⟩ := hs.slice; have HB3 := Lib.hid (HB2.out.trans (hb.mono HB2.out.size)); have hX3 := HD.out.blk.kept HB3.out; have HX3 := Lib.hid hX3; have HS3 := Lib.hid hs; obtain ⟨d0, d1, d2, d3, d4, d5, d6, d7, d8⟩ := hX3.cells; obtain ⟨z0, z1, z2, z3, z4, z5, z6, z7, z8⟩ := hX3.free; dsimp only [exVal, twoE]; clear hb hs hX3))
      all_goals (rw [set9 HX3.out])
      all_goals (have HN := Lib.hid (HD.out.next (y := deepX 2 (j + 1)) HB3.out HS3.out))
      all_goals (go_wp2_with fail)
      go_roundw
      case rel => (repeat apply Exists.intro); exact ⟨⟨i + 1, j + 1, _, by omega, by omega, by go_num, rfl, HN⟩, rfl⟩
      case measure => (simp [RowKit.intOf]; omega)
      go_roundw
      case rel => (repeat apply Exists.intro); exact ⟨⟨i + 1, j + 1, _, by omega, by omega, by go_num, rfl, HN⟩, rfl⟩
      case measure => (simp [RowKit.intOf]; omega)
    · obtain ⟨hkJ, hJ10⟩ := HJ.out
      have hjJ : j = 17 + J := by omega
      have HH := Lib.hid (HD.out.held.mono (Q := fun _ => True) (fun _ _ _ => trivial))
      have hslt : ∃ ao n cc, u = .slice ao n cc := HD.out.held.slice
      by_cases hle : 18 + J ≤ 24
      · obtain ⟨hE, hCk⟩ := deep_yes (c := 2) (by decide) hJ10 hle
        rw [← hjJ] at hE hCk
        have hkle : (i : Int) ≤ 24 := by omega
        have hik2 : (k : Int) ≤ 24 := by omega
        have HA := alive_yes7 wr (hw.kept HD.out.below)
        obtain ⟨ao, un, uc, rfl⟩ := hslt
        clear hle hjJ hkJ hJ10
        go_wp2_with fail
        refine HA.mono ?_
        rintro e w3 ⟨rfl, hb⟩
        have HB3 := Lib.hid (HD.out.below.trans (hb.mono HD.out.below.size))
        have HX3 := Lib.hid ((hb.block B HD.out.blk.lt).trans HD.out.blk)
        have HH3 := Lib.hid (HH.out.below hb)
        have hC := is_yes (strU (deepT 2 j)) _ (by rw [strU_data]; exact hE) (.slice ao un uc) w3 (hw.kept HB3.out) HH3.out
        unfold exVal at hC
        clear hb HA
        go_wp2_with (refine wpListG_load_row rfl 36 _ rfl B rfl _ (eA ((deepX 2 j).a) (.slice ao un uc)) (0, 0) _ HX3.out Tryz.underlying36 rfl (by kernel_rfl) ?_)
        refine hC.mono ?_
        rintro e w4 ⟨rfl, hb⟩
        have HB4 := Lib.hid (HB3.out.trans (hb.mono HB3.out.size))
        have HX4 := Lib.hid ((hb.block B (bk_lt HX3.out)).trans HX3.out)
        have HH4 := Lib.hid (HH3.out.below hb)
        have hQ := check_may (delS (deepX 2 j)) nS nS nS nS nS (.slice ao un uc) nS nS nS w4 ⟨.inl ⟨rfl, rfl⟩, .inl ⟨rfl, rfl⟩, .inl ⟨rfl, rfl⟩, .inl ⟨rfl, rfl⟩, .inl ⟨rfl, rfl⟩, HH4.out, .inl ⟨rfl, rfl⟩, REs.nil _ _, .inl ⟨rfl, rfl⟩⟩ (delS_all (Q := Sh) (by unfold Sh; simp) (by unfold Sh; simp) (deepX_all (Q := Sh) (by unfold Sh; simp) (by unfold Sh; simp) (by unfold Sh; simp) 2 j))
        rw [hCk] at hQ
        clear hb hC
        go_wp2_with (refine wpListG_load_row rfl 36 _ rfl B rfl _ (eA ((deepX 2 j).a) (.slice ao un uc)) (0, 0) _ HX4.out Tryz.underlying36 rfl (by kernel_rfl) ?_)
        refine hQ.mono ?_
        rintro e w5 ⟨rfl, hb⟩
        have HB5 := Lib.hid (HB4.out.trans (hb.mono HB4.out.size))
        clear hb hQ
        go_wp2_with fail
        go_ret
        exact ⟨rfl, HB5.out⟩
      · obtain ⟨hE, hS, hCk⟩ := deep_no (c := 2) (by decide) hJ10 hle
        rw [← hjJ] at hE hS hCk
        have hkle : ¬ (i : Int) ≤ 24 := by omega
        have hik2 : ¬ (k : Int) ≤ 24 := by omega
        obtain ⟨ao, un, uc, rfl⟩ := hslt
        have hsz : (strU (deepT 2 j)).size ≤ 400 := by rw [strU_size]; have := deepT_len 2 j; omega
        obtain ⟨p, hp⟩ : ∃ p, (strU (deepT 2 j)).size = p := ⟨_, rfl⟩
        rw [hp] at hsz
        have z1 : ¬ 9223372036854775807 < 20 + p := by omega
        have ez : (⟨#[68, 69, 76, 69, 84, 69, 32, 70, 82, 79, 77, 32, 116, 32, 87, 72, 69, 82, 69, 32]⟩ : ByteArray) ++ strU (deepT 2 j) = strU ([68, 69, 76, 69, 84, 69, 32, 70, 82, 79, 77, 32, 116, 32, 87, 72, 69, 82, 69, 32] ++ deepT 2 j) := by
          rw [show (⟨#[68, 69, 76, 69, 84, 69, 32, 70, 82, 79, 77, 32, 116, 32, 87, 72, 69, 82, 69, 32]⟩ : ByteArray) = strU [68, 69, 76, 69, 84, 69, 32, 70, 82, 79, 77, 32, 116, 32, 87, 72, 69, 82, 69, 32] from rfl, strU_cat8]
        have hC := expr_any (strU (deepT 2 j)) wr (hw.kept HD.out.below)
        rw [strU_data, hE] at hC
        unfold TellsX exVal noA at hC
        clear hle hjJ hkJ hJ10
        go_wp2_with fail
        refine hC.mono ?_
        rintro e w3 ⟨⟨_, rfl⟩, hb⟩
        obtain ⟨w4, hw4⟩ : ∃ w4, w4 = w3.alloc (.cells #[.int .u8 0, .int .u8 0, .string (strU []), .string (strU []), .int .u8 0, .int .i64 0, .string (strU []), .bool false, .slice none 0 0] 36) := ⟨_, rfl⟩
        have hb4 : Below w3.heap.size w3 w4 := by rw [hw4]; exact below_alloc _ _
        have hb34 := hb.trans (hb4.mono hb.size)
        have HB4 := Lib.hid (HD.out.below.trans (hb34.mono HD.out.below.size))
        have HX4 := Lib.hid ((hb34.block B HD.out.blk.lt).trans HD.out.blk)
        have HH4 := Lib.hid (HH.out.below hb34)
        have hO := stmt_any (strU ([68, 69, 76, 69, 84, 69, 32, 70, 82, 79, 77, 32, 116, 32, 87, 72, 69, 82, 69, 32] ++ deepT 2 j)) w4 (hw.kept HB4.out)
        rw [strU_data, hS] at hO
        unfold TellsS stZero at hO
        clear hb hb4 hb34 hC
        go_wp2_with (rw [← hw4]; clear hw4)
        refine hO.mono ?_
        rintro e w5 ⟨⟨_, rfl⟩, hb⟩
        obtain ⟨w6, hw6⟩ : ∃ w6, w6 = (w5.alloc (.cells (s00 0 z0 z0 nS nS nS nS nS nS nS 0 0) 39)).setRow w5.heap.size (s00 0 z0 z0 nS nS nS nS nS nS nS 0 0) := ⟨_, rfl⟩
        have hb6 : Below w5.heap.size w5 w6 := by rw [hw6]; exact Below.laid (Below.refl _ _) (Nat.le_refl _) _ _
        have hb56 := hb.trans (hb6.mono hb.size)
        have HB6 := Lib.hid (HB4.out.trans (hb56.mono HB4.out.size))
        have HX6 := Lib.hid ((hb56.block B (bk_lt HX4.out)).trans HX4.out)
        have HH6 := Lib.hid (HH4.out.below hb56)
        have HA := alive_yes7 w6 (hw.kept HB6.out)
        clear hb hb6 hb56 hO
        go_wp2_with (refine wpList_store_row rfl 39 _ _ rfl w5.heap.size (s00 0 z0 z0 nS nS nS nS nS nS nS 0 0) rfl rfl _ _ (heap_alloc_new _ _) (by kernel_rfl) rfl (by simp [Value.oneCell']) ?_; rw [← hw6]; clear hw6)
        refine HA.mono ?_
        rintro e w7 ⟨rfl, hb⟩
        have HB7 := Lib.hid (HB6.out.trans (hb.mono HB6.out.size))
        have HX7 := Lib.hid ((hb.block B (bk_lt HX6.out)).trans HX6.out)
        have HH7 := Lib.hid (HH6.out.below hb)
        have hQ := check_may (delS (deepX 2 j)) nS nS nS nS nS (.slice ao un uc) nS nS nS w7 ⟨.inl ⟨rfl, rfl⟩, .inl ⟨rfl, rfl⟩, .inl ⟨rfl, rfl⟩, .inl ⟨rfl, rfl⟩, .inl ⟨rfl, rfl⟩, HH7.out, .inl ⟨rfl, rfl⟩, REs.nil _ _, .inl ⟨rfl, rfl⟩⟩ (delS_all (Q := Sh) (by unfold Sh; simp) (by unfold Sh; simp) (deepX_all (Q := Sh) (by unfold Sh; simp) (by unfold Sh; simp) (by unfold Sh; simp) 2 j))
        rw [hCk] at hQ
        clear hb HA
        go_wp2_with (refine wpListG_load_row rfl 36 _ rfl B rfl _ (eA ((deepX 2 j).a) (.slice ao un uc)) (0, 0) _ HX7.out Tryz.underlying36 rfl (by kernel_rfl) ?_)
        refine hQ.mono ?_
        rintro e w8 ⟨rfl, hb⟩
        have HB8 := Lib.hid (HB7.out.trans (hb.mono HB7.out.size))
        clear hb hQ
        go_wp2_with fail
        go_ret
        exact ⟨rfl, HB8.out⟩
set_option maxRecDepth 100000 in
set_option maxHeartbeats 16000000 in
theorem deep_3 (N M J : Nat) (w : World) (hw : Wo w) (hN : N ≤ 255) (hM : M ≤ 255) (hJ : N % 10 = J) (hc : M % 5 = 3) (hJ10 : J < 10) :
    Calls Tryz.prog 9 #[.int .u8 (N : Int), .int .u8 (M : Int)] w fun e w' => e = .returned (.bool true) ∧ Below w.heap.size w w' := by
  obtain ⟨k, hk⟩ : ∃ k, k = 18 + J := ⟨_, rfl⟩
  have e1 : (18 : Int) + ((N : Int) % 10) = (k : Int) := by omega
  have e2 : ((M : Int) % 5) = 3 := by omega
  have HJ := Lib.hid (And.intro hk hJ10)
  have hk2 : 18 ≤ k ∧ k ≤ 27 := by omega
  obtain ⟨hk18, hk27⟩ := hk2
  clear hJ hc hk hJ10
  go_enter Tryz.func9, Tryz.ntmps9
  go_wp2_with fail
  refine (col_any [97] _).mono ?_
  rintro e w1 ⟨rfl, hb⟩
  obtain ⟨B, hB⟩ : ∃ B, B = w1.heap.size := ⟨_, rfl⟩
  obtain ⟨w2, hw2⟩ : ∃ w2, w2 = (w1.alloc (.cells zeroE 36)).setRow w1.heap.size (exArr (colE [] [97]).a nS) := ⟨_, rfl⟩
  have HD0 : Hid (DeepAt w w2 B (deepX 3 0) nS) := Lib.hid (by
    rw [hw2, hB]
    exact ⟨hb.size, ExB.set (heap_alloc_new _ _) _ _, REs.nil _ _, Below.laid hb hb.size _ _⟩)
  clear hb
  go_wp2_with (refine wpList_store_ex rfl _ _ rfl w1.heap.size (colE [] [97]).a nS rfl rfl rfl _ (heap_alloc_new _ _) rfl ?_; rw [show (w1.alloc (.cells zA 36)).setRow w1.heap.size (exArr (colE [] [97]).a nS) = w2 from hw2.symm, ← hB]; clear hw2 hB)
  go_loopw [6, 8] (fun sv iv wr => ∃ (i j : Nat) (u : Value), i = j + 1 ∧ i ≤ k ∧ iv = .int .i64 (i : Int) ∧ sv = .string (strU (deepT 3 j)) ∧ Hid (DeepAt w wr B (deepX 3 j) u)) (fun _ iv _ => k - (RowKit.intOf iv).toNat)
  case atStart => exact ⟨1, 0, _, rfl, by omega, rfl, rfl, HD0⟩
  case round =>
    obtain ⟨i, j, u, hij, hik, rfl, rfl, HD⟩ := hrel
    by_cases hlt : i < k
    · have hj : j ≤ 27 := by omega
      have hsz : (strU (deepT 3 j)).size ≤ 400 := by rw [strU_size]; have := deepT_len 3 j; omega
      obtain ⟨p, hp⟩ : ∃ p, (strU (deepT 3 j)).size = p := ⟨_, rfl⟩
      rw [hp] at hsz
      have z1 : ¬ 9223372036854775807 < 2 + p := by omega
      have z2 : ¬ 9223372036854775807 < 2 + p + 1 := by omega
      have ez : (⟨#[102, 40]⟩ : ByteArray) ++ strU (deepT 3 j) ++ ⟨#[41]⟩ = strU (deepT 3 (j + 1)) := by
        rw [show (⟨#[102, 40]⟩ : ByteArray) = strU [102, 40] from rfl, show (⟨#[41]⟩ : ByteArray) = strU [41] from rfl, strU_cat8, strU_cat8]
        rfl
      have hu := HD.out.held.one
      obtain ⟨w2, hw2⟩ : ∃ w2, w2 = wr.alloc (.cells (exCells (deepX 3 j).a u).toArray exE.T) := ⟨_, rfl⟩
      have hb : Below wr.heap.size wr w2 := by rw [hw2]; exact below_alloc _ _
      have hs : REs (B < ·) w2 (.slice (some ⟨wr.heap.size, 0, none⟩) 1 1) (deepX 3 (j + 1)).l := by
        rw [hw2]
        exact REs.of_block (us := [u]) (l := [(deepX 3 j)]) (heap_alloc_new _ _) rfl ⟨HD.out.held.below (below_alloc _ _), trivial⟩ HD.out.blk.lt (by simp) 1 rfl
      have HN := Lib.hid (HD.out.next (y := deepX 3 (j + 1)) hb hs)
      have HO := Lib.hid ((hb.block B HD.out.blk.lt).trans HD.out.blk)
      have HW2 := Lib.hid hw2
      clear hs hb hw2
      go_wp2_with (first
        | (rw [← HW2.out])
        | (refine wpList_load_row rfl 36 _ rfl B rfl _ (exArr (deepX 3 j).a u) (0, 0) _ HD.out.blk Tryz.underlying36 rfl (by kernel_rfl) ?_)
        | (refine wpList_one_slice exE Tryz.underlying34 Tryz.infoLEx rfl (by decide) (show (Value.agg (exArr (deepX 3 j).a u)).cells = (exCells (deepX 3 j).a u).toArray from rfl) rfl rfl _ rfl rfl ?_)
        | (refine wpList_store_row rfl 36 _ _ rfl B (exArr (deepX 3 (j + 1)).a (.slice (some ⟨wr.heap.size, 0, none⟩) 1 1)) rfl rfl _ _ HO.out (by kernel_rfl) rfl (exArr_one _ _ rfl) ?_))
      go_roundw
      case rel => exact ⟨i + 1, j + 1, _, by omega, by omega, by go_num, rfl, HN⟩
      case measure => simp only [RowKit.intOf]; omega
    · obtain ⟨hkJ, hJ10⟩ := HJ.out
      have hjJ : j = 17 + J := by omega
      have HH := Lib.hid (HD.out.held.mono (Q := fun _ => True) (fun _ _ _ => trivial))
      have hslt : ∃ ao n cc, u = .slice ao n cc := HD.out.held.slice
      by_cases hle : 18 + J ≤ 24
      · obtain ⟨hE, hCk⟩ := deep_yes (c := 3) (by decide) hJ10 hle
        rw [← hjJ] at hE hCk
        have hkle : (i : Int) ≤ 24 := by omega
        have hik2 : (k : Int) ≤ 24 := by omega
        have HA := alive_yes7 wr (hw.kept HD.out.below)
        obtain ⟨ao, un, uc, rfl⟩ := hslt
        clear hle hjJ hkJ hJ10
        go_wp2_with fail
        refine HA.mono ?_
        rintro e w3 ⟨rfl, hb⟩
        have HB3 := Lib.hid (HD.out.below.trans (hb.mono HD.out.below.size))
        have HX3 := Lib.hid ((hb.block B HD.out.blk.lt).trans HD.out.blk)
        have HH3 := Lib.hid (HH.out.below hb)
        have hC := is_yes (strU (deepT 3 j)) _ (by rw [strU_data]; exact hE) (.slice ao un uc) w3 (hw.kept HB3.out) HH3.out
        unfold exVal at hC
        clear hb HA
        go_wp2_with (refine wpListG_load_row rfl 36 _ rfl B rfl _ (eA ((deepX 3 j).a) (.slice ao un uc)) (0, 0) _ HX3.out Tryz.underlying36 rfl (by kernel_rfl) ?_)
        refine hC.mono ?_
        rintro e w4 ⟨rfl, hb⟩
        have HB4 := Lib.hid (HB3.out.trans (hb.mono HB3.out.size))
        have HX4 := Lib.hid ((hb.block B (bk_lt HX3.out)).trans HX3.out)
        have HH4 := Lib.hid (HH3.out.below hb)
        have hQ := check_may (delS (deepX 3 j)) nS nS nS nS nS (.slice ao un uc) nS nS nS w4 ⟨.inl ⟨rfl, rfl⟩, .inl ⟨rfl, rfl⟩, .inl ⟨rfl, rfl⟩, .inl ⟨rfl, rfl⟩, .inl ⟨rfl, rfl⟩, HH4.out, .inl ⟨rfl, rfl⟩, REs.nil _ _, .inl ⟨rfl, rfl⟩⟩ (delS_all (Q := Sh) (by unfold Sh; simp) (by unfold Sh; simp) (deepX_all (Q := Sh) (by unfold Sh; simp) (by unfold Sh; simp) (by unfold Sh; simp) 3 j))
        rw [hCk] at hQ
        clear hb hC
        go_wp2_with (refine wpListG_load_row rfl 36 _ rfl B rfl _ (eA ((deepX 3 j).a) (.slice ao un uc)) (0, 0) _ HX4.out Tryz.underlying36 rfl (by kernel_rfl) ?_)
        refine hQ.mono ?_
        rintro e w5 ⟨rfl, hb⟩
        have HB5 := Lib.hid (HB4.out.trans (hb.mono HB4.out.size))
        clear hb hQ
        go_wp2_with fail
        go_ret
        exact ⟨rfl, HB5.out⟩
      · obtain ⟨hE, hS, hCk⟩ := deep_no (c := 3) (by decide) hJ10 hle
        rw [← hjJ] at hE hS hCk
        have hkle : ¬ (i : Int) ≤ 24 := by omega
        have hik2 : ¬ (k : Int) ≤ 24 := by omega
        obtain ⟨ao, un, uc, rfl⟩ := hslt
        have hsz : (strU (deepT 3 j)).size ≤ 400 := by rw [strU_size]; have := deepT_len 3 j; omega
        obtain ⟨p, hp⟩ : ∃ p, (strU (deepT 3 j)).size = p := ⟨_, rfl⟩
        rw [hp] at hsz
        have z1 : ¬ 9223372036854775807 < 20 + p := by omega
        have ez : (⟨#[68, 69, 76, 69, 84, 69, 32, 70, 82, 79, 77, 32, 116, 32, 87, 72, 69, 82, 69, 32]⟩ : ByteArray) ++ strU (deepT 3 j) = strU ([68, 69, 76, 69, 84, 69, 32, 70, 82, 79, 77, 32, 116, 32, 87, 72, 69, 82, 69, 32] ++ deepT 3 j) := by
          rw [show (⟨#[68, 69, 76, 69, 84, 69, 32, 70, 82, 79, 77, 32, 116, 32, 87, 72, 69, 82, 69, 32]⟩ : ByteArray) = strU [68, 69, 76, 69, 84, 69, 32, 70, 82, 79, 77, 32, 116, 32, 87, 72, 69, 82, 69, 32] from rfl, strU_cat8]
        have hC := expr_any (strU (deepT 3 j)) wr (hw.kept HD.out.below)
        rw [strU_data, hE] at hC
        unfold TellsX exVal noA at hC
        clear hle hjJ hkJ hJ10
        go_wp2_with fail
        refine hC.mono ?_
        rintro e w3 ⟨⟨_, rfl⟩, hb⟩
        obtain ⟨w4, hw4⟩ : ∃ w4, w4 = w3.alloc (.cells #[.int .u8 0, .int .u8 0, .string (strU []), .string (strU []), .int .u8 0, .int .i64 0, .string (strU []), .bool false, .slice none 0 0] 36) := ⟨_, rfl⟩
        have hb4 : Below w3.heap.size w3 w4 := by rw [hw4]; exact below_alloc _ _
        have hb34 := hb.trans (hb4.mono hb.size)
        have HB4 := Lib.hid (HD.out.below.trans (hb34.mono HD.out.below.size))
        have HX4 := Lib.hid ((hb34.block B HD.out.blk.lt).trans HD.out.blk)
        have HH4 := Lib.hid (HH.out.below hb34)
        have hO := stmt_any (strU ([68, 69, 76, 69, 84, 69, 32, 70, 82, 79, 77, 32, 116, 32, 87, 72, 69, 82, 69, 32] ++ deepT 3 j)) w4 (hw.kept HB4.out)
        rw [strU_data, hS] at hO
        unfold TellsS stZero at hO
        clear hb hb4 hb34 hC
        go_wp2_with (rw [← hw4]; clear hw4)
        refine hO.mono ?_
        rintro e w5 ⟨⟨_, rfl⟩, hb⟩
        obtain ⟨w6, hw6⟩ : ∃ w6, w6 = (w5.alloc (.cells (s00 0 z0 z0 nS nS nS nS nS nS nS 0 0) 39)).setRow w5.heap.size (s00 0 z0 z0 nS nS nS nS nS nS nS 0 0) := ⟨_, rfl⟩
        have hb6 : Below w5.heap.size w5 w6 := by rw [hw6]; exact Below.laid (Below.refl _ _) (Nat.le_refl _) _ _
        have hb56 := hb.trans (hb6.mono hb.size)
        have HB6 := Lib.hid (HB4.out.trans (hb56.mono HB4.out.size))
        have HX6 := Lib.hid ((hb56.block B (bk_lt HX4.out)).trans HX4.out)
        have HH6 := Lib.hid (HH4.out.below hb56)
        have HA := alive_yes7 w6 (hw.kept HB6.out)
        clear hb hb6 hb56 hO
        go_wp2_with (refine wpList_store_row rfl 39 _ _ rfl w5.heap.size (s00 0 z0 z0 nS nS nS nS nS nS nS 0 0) rfl rfl _ _ (heap_alloc_new _ _) (by kernel_rfl) rfl (by simp [Value.oneCell']) ?_; rw [← hw6]; clear hw6)
        refine HA.mono ?_
        rintro e w7 ⟨rfl, hb⟩
        have HB7 := Lib.hid (HB6.out.trans (hb.mono HB6.out.size))
        have HX7 := Lib.hid ((hb.block B (bk_lt HX6.out)).trans HX6.out)
        have HH7 := Lib.hid (HH6.out.below hb)
        have hQ := check_may (delS (deepX 3 j)) nS nS nS nS nS (.slice ao un uc) nS nS nS w7 ⟨.inl ⟨rfl, rfl⟩, .inl ⟨rfl, rfl⟩, .inl ⟨rfl, rfl⟩, .inl ⟨rfl, rfl⟩, .inl ⟨rfl, rfl⟩, HH7.out, .inl ⟨rfl, rfl⟩, REs.nil _ _, .inl ⟨rfl, rfl⟩⟩ (delS_all (Q := Sh) (by unfold Sh; simp) (by unfold Sh; simp) (deepX_all (Q := Sh) (by unfold Sh; simp) (by unfold Sh; simp) (by unfold Sh; simp) 3 j))
        rw [hCk] at hQ
        clear hb HA
        go_wp2_with (refine wpListG_load_row rfl 36 _ rfl B rfl _ (eA ((deepX 3 j).a) (.slice ao un uc)) (0, 0) _ HX7.out Tryz.underlying36 rfl (by kernel_rfl) ?_)
        refine hQ.mono ?_
        rintro e w8 ⟨rfl, hb⟩
        have HB8 := Lib.hid (HB7.out.trans (hb.mono HB7.out.size))
        clear hb hQ
        go_wp2_with fail
        go_ret
        exact ⟨rfl, HB8.out⟩
set_option maxRecDepth 100000 in
set_option maxHeartbeats 16000000 in
theorem deep_4 (N M J : Nat) (w : World) (hw : Wo w) (hN : N ≤ 255) (hM : M ≤ 255) (hJ : N % 10 = J) (hc : M % 5 = 4) (hJ10 : J < 10) :
    Calls Tryz.prog 9 #[.int .u8 (N : Int), .int .u8 (M : Int)] w fun e w' => e = .returned (.bool true) ∧ Below w.heap.size w w' := by
  obtain ⟨k, hk⟩ : ∃ k, k = 18 + J := ⟨_, rfl⟩
  have e1 : (18 : Int) + ((N : Int) % 10) = (k : Int) := by omega
  have e2 : ((M : Int) % 5) = 4 := by omega
  have HJ := Lib.hid (And.intro hk hJ10)
  have hk2 : 18 ≤ k ∧ k ≤ 27 := by omega
  obtain ⟨hk18, hk27⟩ := hk2
  clear hJ hc hk hJ10
  go_enter Tryz.func9, Tryz.ntmps9
  go_wp2_with fail
  refine (col_any [97] _).mono ?_
  rintro e w1 ⟨rfl, hb⟩
  obtain ⟨B, hB⟩ : ∃ B, B = w1.heap.size := ⟨_, rfl⟩
  obtain ⟨w2, hw2⟩ : ∃ w2, w2 = (w1.alloc (.cells zeroE 36)).setRow w1.heap.size (exArr (colE [] [97]).a nS) := ⟨_, rfl⟩
  have HD0 : Hid (DeepAt w w2 B (deepX 4 0) nS) := Lib.hid (by
    rw [hw2, hB]
    exact ⟨hb.size, ExB.set (heap_alloc_new _ _) _ _, REs.nil _ _, Below.laid hb hb.size _ _⟩)
  clear hb
  go_wp2_with (refine wpList_store_ex rfl _ _ rfl w1.heap.size (colE [] [97]).a nS rfl rfl rfl _ (heap_alloc_new _ _) rfl ?_; rw [show (w1.alloc (.cells zA 36)).setRow w1.heap.size (exArr (colE [] [97]).a nS) = w2 from hw2.symm, ← hB]; clear hw2 hB)
  go_loopw [6, 8] (fun sv iv wr => ∃ (i j : Nat) (u : Value), i = j + 1 ∧ i ≤ k ∧ iv = .int .i64 (i : Int) ∧ sv = .string (strU (deepT 4 j)) ∧ Hid (DeepAt w wr B (deepX 4 j) u)) (fun _ iv _ => k - (RowKit.intOf iv).toNat)
  case atStart => exact ⟨1, 0, _, rfl, by omega, rfl, rfl, HD0⟩
  case round =>
    obtain ⟨i, j, u, hij, hik, rfl, rfl, HD⟩ := hrel
    by_cases hlt : i < k
    · have hj : j ≤ 27 := by omega
      have hsz : (strU (deepT 4 j)).size ≤ 400 := by rw [strU_size]; have := deepT_len 4 j; omega
      obtain ⟨p, hp⟩ : ∃ p, (strU (deepT 4 j)).size = p := ⟨_, rfl⟩
      rw [hp] at hsz
      have z1 : ¬ 9223372036854775807 < 8 + p := by omega
      have z2 : ¬ 9223372036854775807 < 8 + p + 4 := by omega
      have ez : (⟨#[40, 49, 32, 42, 32, 40, 40, 40]⟩ : ByteArray) ++ strU (deepT 4 j) ++ ⟨#[41, 41, 41, 41]⟩ = strU (deepT 4 (j + 1)) := by
        rw [show (⟨#[40, 49, 32, 42, 32, 40, 40, 40]⟩ : ByteArray) = strU [40, 49, 32, 42, 32, 40, 40, 40] from rfl, show (⟨#[41, 41, 41, 41]⟩ : ByteArray) = strU [41, 41, 41, 41] from rfl, strU_cat8, strU_cat8]
        rfl
      obtain ⟨n0, n1, n2, n3, n4, n5, n6, n7, n8⟩ := HD.out.blk.cells
      obtain ⟨ao0, un0, uc0, rfl⟩ := HD.out.held.slice
      go_wp2_with fail
      go_region_with (first
        | (go_at_call 26; refine (num_any 1 _).mono ?_; rintro e w2 ⟨rfl, hb⟩; have hb2 : Below wr.heap.size wr w2 := ((Below.refl _ wr).drew).trans hb; have HB2 := Lib.hid hb2; have hX2 := HD.out.blk.kept hb2; obtain ⟨m0, m1, m2, m3, m4, m5, m6, m7, m8⟩ := hX2.cells; clear hb hb2 hX2)
        | (go_at_call 17; refine (two_P 7 (litE 1 1 []) (deepX 4 j) nS (.slice ao0 un0 uc0) (B < ·) w2 (REs.nil _ _) (HD.out.held.below HB2.out) (fun k hk => Nat.lt_of_lt_of_le HD.out.blk.lt (Nat.le_trans HB2.out.size hk))).mono ?_; rintro e w3 ⟨v, rfl, hs, hb⟩; obtain ⟨vo, vn, vc, rfl⟩ := hs.slice; have HB3 := Lib.hid (HB2.out.trans (hb.mono HB2.out.size)); have hX3 := HD.out.blk.kept HB3.out; have HX3 := Lib.hid hX3; have HS3 := Lib.hid hs; obtain ⟨d0, d1, d2, d3, d4, d5, d6, d7, d8⟩ := hX3.cells; obtain ⟨z0, z1, z2, z3, z4, z5, z6, z7, z8⟩ := hX3.free; dsimp only [exVal, twoE]; clear hb hs hX3))
      all_goals (rw [set9 HX3.out])
      all_goals (have HN := Lib.hid (HD.out.next (y := deepX 4 (j + 1)) HB3.out HS3.out))
      all_goals (go_wp2_with fail)
      go_roundw
      case rel => (repeat apply Exists.intro); exact ⟨⟨i + 1, j + 1, _, by omega, by omega, by go_num, rfl, HN⟩, rfl⟩
      case measure => (simp [RowKit.intOf]; omega)
      go_roundw
      case rel => (repeat apply Exists.intro); exact ⟨⟨i + 1, j + 1, _, by omega, by omega, by go_num, rfl, HN⟩, rfl⟩
      case measure => (simp [RowKit.intOf]; omega)
    · obtain ⟨hkJ, hJ10⟩ := HJ.out
      have hjJ : j = 17 + J := by omega
      have HH := Lib.hid (HD.out.held.mono (Q := fun _ => True) (fun _ _ _ => trivial))
      have hslt : ∃ ao n cc, u = .slice ao n cc := HD.out.held.slice
      by_cases hle : 18 + J ≤ 24
      · obtain ⟨hE, hCk⟩ := deep_yes (c := 4) (by decide) hJ10 hle
        rw [← hjJ] at hE hCk
        have hkle : (i : Int) ≤ 24 := by omega
        have hik2 : (k : Int) ≤ 24 := by omega
        have HA := alive_yes7 wr (hw.kept HD.out.below)
        obtain ⟨ao, un, uc, rfl⟩ := hslt
        clear hle hjJ hkJ hJ10
        go_wp2_with fail
        refine HA.mono ?_
        rintro e w3 ⟨rfl, hb⟩
        have HB3 := Lib.hid (HD.out.below.trans (hb.mono HD.out.below.size))
        have HX3 := Lib.hid ((hb.block B HD.out.blk.lt).trans HD.out.blk)
        have HH3 := Lib.hid (HH.out.below hb)
        have hC := is_yes (strU (deepT 4 j)) _ (by rw [strU_data]; exact hE) (.slice ao un uc) w3 (hw.kept HB3.out) HH3.out
        unfold exVal at hC
        clear hb HA
        go_wp2_with (refine wpListG_load_row rfl 36 _ rfl B rfl _ (eA ((deepX 4 j).a) (.slice ao un uc)) (0, 0) _ HX3.out Tryz.underlying36 rfl (by kernel_rfl) ?_)
        refine hC.mono ?_
        rintro e w4 ⟨rfl, hb⟩
        have HB4 := Lib.hid (HB3.out.trans (hb.mono HB3.out.size))
        have HX4 := Lib.hid ((hb.block B (bk_lt HX3.out)).trans HX3.out)
        have HH4 := Lib.hid (HH3.out.below hb)
        have hQ := check_may (delS (deepX 4 j)) nS nS nS nS nS (.slice ao un uc) nS nS nS w4 ⟨.inl ⟨rfl, rfl⟩, .inl ⟨rfl, rfl⟩, .inl ⟨rfl, rfl⟩, .inl ⟨rfl, rfl⟩, .inl ⟨rfl, rfl⟩, HH4.out, .inl ⟨rfl, rfl⟩, REs.nil _ _, .inl ⟨rfl, rfl⟩⟩ (delS_all (Q := Sh) (by unfold Sh; simp) (by unfold Sh; simp) (deepX_all (Q := Sh) (by unfold Sh; simp) (by unfold Sh; simp) (by unfold Sh; simp) 4 j))
        rw [hCk] at hQ
        clear hb hC
        go_wp2_with (refine wpListG_load_row rfl 36 _ rfl B rfl _ (eA ((deepX 4 j).a) (.slice ao un uc)) (0, 0) _ HX4.out Tryz.underlying36 rfl (by kernel_rfl) ?_)
        refine hQ.mono ?_
        rintro e w5 ⟨rfl, hb⟩
        have HB5 := Lib.hid (HB4.out.trans (hb.mono HB4.out.size))
        clear hb hQ
        go_wp2_with fail
        go_ret
        exact ⟨rfl, HB5.out⟩
      · obtain ⟨hE, hS, hCk⟩ := deep_no (c := 4) (by decide) hJ10 hle
        rw [← hjJ] at hE hS hCk
        have hkle : ¬ (i : Int) ≤ 24 := by omega
        have hik2 : ¬ (k : Int) ≤ 24 := by omega
        obtain ⟨ao, un, uc, rfl⟩ := hslt
        have hsz : (strU (deepT 4 j)).size ≤ 400 := by rw [strU_size]; have := deepT_len 4 j; omega
        obtain ⟨p, hp⟩ : ∃ p, (strU (deepT 4 j)).size = p := ⟨_, rfl⟩
        rw [hp] at hsz
        have z1 : ¬ 9223372036854775807 < 20 + p := by omega
        have ez : (⟨#[68, 69, 76, 69, 84, 69, 32, 70, 82, 79, 77, 32, 116, 32, 87, 72, 69, 82, 69, 32]⟩ : ByteArray) ++ strU (deepT 4 j) = strU ([68, 69, 76, 69, 84, 69, 32, 70, 82, 79, 77, 32, 116, 32, 87, 72, 69, 82, 69, 32] ++ deepT 4 j) := by
          rw [show (⟨#[68, 69, 76, 69, 84, 69, 32, 70, 82, 79, 77, 32, 116, 32, 87, 72, 69, 82, 69, 32]⟩ : ByteArray) = strU [68, 69, 76, 69, 84, 69, 32, 70, 82, 79, 77, 32, 116, 32, 87, 72, 69, 82, 69, 32] from rfl, strU_cat8]
        have hC := expr_any (strU (deepT 4 j)) wr (hw.kept HD.out.below)
        rw [strU_data, hE] at hC
        unfold TellsX exVal noA at hC
        clear hle hjJ hkJ hJ10
        go_wp2_with fail
        refine hC.mono ?_
        rintro e w3 ⟨⟨_, rfl⟩, hb⟩
        obtain ⟨w4, hw4⟩ : ∃ w4, w4 = w3.alloc (.cells #[.int .u8 0, .int .u8 0, .string (strU []), .string (strU []), .int .u8 0, .int .i64 0, .string (strU []), .bool false, .slice none 0 0] 36) := ⟨_, rfl⟩
        have hb4 : Below w3.heap.size w3 w4 := by rw [hw4]; exact below_alloc _ _
        have hb34 := hb.trans (hb4.mono hb.size)
        have HB4 := Lib.hid (HD.out.below.trans (hb34.mono HD.out.below.size))
        have HX4 := Lib.hid ((hb34.block B HD.out.blk.lt).trans HD.out.blk)
        have HH4 := Lib.hid (HH.out.below hb34)
        have hO := stmt_any (strU ([68, 69, 76, 69, 84, 69, 32, 70, 82, 79, 77, 32, 116, 32, 87, 72, 69, 82, 69, 32] ++ deepT 4 j)) w4 (hw.kept HB4.out)
        rw [strU_data, hS] at hO
        unfold TellsS stZero at hO
        clear hb hb4 hb34 hC
        go_wp2_with (rw [← hw4]; clear hw4)
        refine hO.mono ?_
        rintro e w5 ⟨⟨_, rfl⟩, hb⟩
        obtain ⟨w6, hw6⟩ : ∃ w6, w6 = (w5.alloc (.cells (s00 0 z0 z0 nS nS nS nS nS nS nS 0 0) 39)).setRow w5.heap.size (s00 0 z0 z0 nS nS nS nS nS nS nS 0 0) := ⟨_, rfl⟩
        have hb6 : Below w5.heap.size w5 w6 := by rw [hw6]; exact Below.laid (Below.refl _ _) (Nat.le_refl _) _ _
        have hb56 := hb.trans (hb6.mono hb.size)
        have HB6 := Lib.hid (HB4.out.trans (hb56.mono HB4.out.size))
        have HX6 := Lib.hid ((hb56.block B (bk_lt HX4.out)).trans HX4.out)
        have HH6 := Lib.hid (HH4.out.below hb56)
        have HA := alive_yes7 w6 (hw.kept HB6.out)
        clear hb hb6 hb56 hO
        go_wp2_with (refine wpList_store_row rfl 39 _ _ rfl w5.heap.size (s00 0 z0 z0 nS nS nS nS nS nS nS 0 0) rfl rfl _ _ (heap_alloc_new _ _) (by kernel_rfl) rfl (by simp [Value.oneCell']) ?_; rw [← hw6]; clear hw6)
        refine HA.mono ?_
        rintro e w7 ⟨rfl, hb⟩
        have HB7 := Lib.hid (HB6.out.trans (hb.mono HB6.out.size))
        have HX7 := Lib.hid ((hb.block B (bk_lt HX6.out)).trans HX6.out)
        have HH7 := Lib.hid (HH6.out.below hb)
        have hQ := check_may (delS (deepX 4 j)) nS nS nS nS nS (.slice ao un uc) nS nS nS w7 ⟨.inl ⟨rfl, rfl⟩, .inl ⟨rfl, rfl⟩, .inl ⟨rfl, rfl⟩, .inl ⟨rfl, rfl⟩, .inl ⟨rfl, rfl⟩, HH7.out, .inl ⟨rfl, rfl⟩, REs.nil _ _, .inl ⟨rfl, rfl⟩⟩ (delS_all (Q := Sh) (by unfold Sh; simp) (by unfold Sh; simp) (deepX_all (Q := Sh) (by unfold Sh; simp) (by unfold Sh; simp) (by unfold Sh; simp) 4 j))
        rw [hCk] at hQ
        clear hb HA
        go_wp2_with (refine wpListG_load_row rfl 36 _ rfl B rfl _ (eA ((deepX 4 j).a) (.slice ao un uc)) (0, 0) _ HX7.out Tryz.underlying36 rfl (by kernel_rfl) ?_)
        refine hQ.mono ?_
        rintro e w8 ⟨rfl, hb⟩
        have HB8 := Lib.hid (HB7.out.trans (hb.mono HB7.out.size))
        clear hb hQ
        go_wp2_with fail
        go_ret
        exact ⟨rfl, HB8.out⟩
theorem walk_TreesDeep (n : Int) (hn : (Lit.int .u8 n).wf = true) (m : Int) (hm : (Lit.int .u8 m).wf = true) {w : World} (hw : Wo w) :
    Calls Tryz.prog 9 #[.int .u8 n, .int .u8 m] w fun e w' => e = .returned (.bool true) ∧ Below w.heap.size w w' := by
  have h1 := wf_u8 hn
  have h2 := wf_u8 hm
  obtain ⟨N, rfl⟩ := Int.eq_ofNat_of_zero_le h1.1
  obtain ⟨M, rfl⟩ := Int.eq_ofNat_of_zero_le h2.1
  have hj : N % 10 < 10 := Nat.mod_lt _ (by decide)
  have hc : M % 5 = 0 ∨ M % 5 = 1 ∨ M % 5 = 2 ∨ M % 5 = 3 ∨ M % 5 = 4 := by omega
  rcases hc with c | c | c | c | c
  · exact deep_0 N M _ w hw (by omega) (by omega) rfl c hj
  · exact deep_1 N M _ w hw (by omega) (by omega) rfl c hj
  · exact deep_2 N M _ w hw (by omega) (by omega) rfl c hj
  · exact deep_3 N M _ w hw (by omega) (by omega) rfl c hj
  · exact deep_4 N M _ w hw (by omega) (by omega) rfl c hj
end Go.Proofs.YtenmnpbjnbdeaaaGreatDoor
