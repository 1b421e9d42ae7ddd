/-
  WHAT IS PROVED: contracts of the statements' own helpers: reads, alive.
-/
import Derived.Lib.SlBytesConst
import Derived.Test.YtoeafjdlnbcfiaaNumsF
namespace Go.Proofs.Ytoeafjdlnbcfiaa
open Go.RowKit

theorem row_nil (w : World) : Row8 w none 0 0 [] := ⟨rfl, Nat.le_refl _, by omega, fun _ => rfl, fun a ha => by simp at ha, fun x hx => by simp at hx⟩

/-- bytes that are written out: a new block -/
theorem row_new (w : World) (l : List Nat) (n B : Nat) (fr : Nat × Nat) (hB : w.heap.size = B) (hn : l.length = n) (hl : ∀ x ∈ l, x < 256) (h : n ≤ 1000) : Row8 (w.alloc (.cells (cells8 l).toArray 5 fr)) (some ⟨B, 0, none⟩) n n l := by
  subst hn hB
  refine ⟨rfl, Nat.le_refl _, by omega, fun h => by simp at h, fun a ha j hj => ?_, hl⟩
  obtain rfl := Option.some.inj ha
  have hadd : (⟨w.heap.size, 0, none⟩ : Addr).add j = ⟨w.heap.size, j, none⟩ := by unfold Addr.add; split <;> simp_all
  have hnew := heap_alloc_new w (.cells (cells8 l).toArray 5 fr)
  rw [hadd]
  refine (cell_of_row _ w.heap.size j _ _ _ hnew).trans ?_
  rw [List.getElem?_toArray]
  exact cells8_getElem? l j hj

theorem below_step {w wk w' : World} {o : Obj} (h : Below w.heap.size w wk) (h' : Below (wk.alloc o).heap.size (wk.alloc o) w') : Below w.heap.size w w' :=
  (h.alloc h.size o).trans (h'.mono (by have := h.size; simp; omega))
theorem below_next {w wk w' : World} (h : Below w.heap.size w wk) (h' : Below wk.heap.size wk w') : Below w.heap.size w w' := h.trans (h'.mono h.size)
theorem Row8.step {wk w' : World} {o : Obj} {ao : Option Addr} {n cap : Nat} {l : List Nat} (h : Row8 wk ao n cap l) (h' : Below (wk.alloc o).heap.size (wk.alloc o) w') : Row8 w' ao n cap l := (h.alloc o).kept h'

theorem get_at (ao : Option Addr) (n cap : Nat) (l : List Nat) (w : World) (hr : Row8 w ao n cap l) (v t er : Nat) (hg : getL l = (v, t, er)) :
    Calls Try.prog 12 #[.slice ao n cap] w fun e w' => e = .returned (.tuple #[.int .u64 (v : Int), .int .i64 (t : Int), .int .i64 (er : Int)]) ∧ Below w.heap.size w w' := by
  refine (get_any ao n cap l w hr).mono ?_
  rintro e w1 ⟨v', t', er', hg', rfl, hb⟩
  rw [hg] at hg'
  simp only [Prod.mk.injEq] at hg'
  obtain ⟨rfl, rfl, rfl⟩ := hg'
  exact ⟨rfl, hb⟩

theorem getSigned_at (ao : Option Addr) (n cap : Nat) (l : List Nat) (w : World) (hr : Row8 w ao n cap l) (v t er : Nat) (x : Int) (hg : getL l = (v, t, er)) (hx : unfoldN v = x) :
    Calls Try.prog 14 #[.slice ao n cap] w fun e w' => e = .returned (.tuple #[.int .i64 x, .int .i64 (t : Int), .int .i64 (er : Int)]) ∧ Below w.heap.size w w' := by
  refine (getSigned_any ao n cap l w hr).mono ?_
  rintro e w1 ⟨v', t', er', hg', rfl, hb⟩
  rw [hg] at hg'
  simp only [Prod.mk.injEq] at hg'
  obtain ⟨rfl, rfl, rfl⟩ := hg'
  subst hx
  exact ⟨rfl, hb⟩

theorem getText_at (ao : Option Addr) (n cap : Nat) (l : List Nat) (w : World) (hr : Row8 w ao n cap l) (s : List Nat) (t er : Nat) (x : ByteArray) (hg : gtL l = (s, t, er)) (hx : strB s = x) :
    Calls Try.prog 16 #[.slice ao n cap] w fun e w' => e = .returned (.tuple #[.string x, .int .i64 (t : Int), .int .i64 (er : Int)]) ∧ Below w.heap.size w w' := by
  refine (getText_any ao n cap l w hr).mono ?_
  rintro e w1 ⟨s', t', er', hg', rfl, hb⟩
  rw [hg] at hg'
  simp only [Prod.mk.injEq] at hg'
  obtain ⟨rfl, rfl, rfl⟩ := hg'
  subst hx
  exact ⟨rfl, hb⟩

theorem reads_yes (ao : Option Addr) (n cap : Nat) (l : List Nat) (w : World) (hr : Row8 w ao n cap l) (v t er : Nat) (hg : getL l = (v, t, er)) :
    Calls Try.prog 21 #[.slice ao n cap, .int .u64 (v : Int), .int .i64 (t : Int), .int .i64 (er : Int)] w fun e w' => e = .returned (.bool true) ∧ Below w.heap.size w w' := by
  have HR := Lib.hid hr
  have HG := Lib.hid hg
  clear hr hg
  go_enter Try.func21, Try.ntmps21
  go_wp2_with fail
  refine (get_at ao n cap l w HR.out v t er HG.out).mono ?_
  rintro e w1 ⟨rfl, hb⟩
  go_wp2
  go_ret
  exact ⟨rfl, hb⟩

/-- Put, PutSigned, PutText where the bytes are known -/
theorem new8_at {w : World} {l m : List Nat} (h : l = m) {f : FuncId} {args : Array Value} (hc : Calls Try.prog f args w (New8 w l)) : Calls Try.prog f args w (New8 w m) := h ▸ hc

theorem sameBytes_at (a b : Option Addr) (n m ca cb : Nat) (l : List Nat) (w : World) (hl : Row8 w a n ca l) (hr : Row8 w b m cb l) :
    Calls Try.prog 22 #[.slice a n ca, .slice b m cb] w fun e w' => e = .returned (.bool true) ∧ Below w.heap.size w w' := by
  refine (sameBytes_any a b n m ca cb l l w hl hr).mono ?_
  rintro e w' ⟨rfl, k, rfl⟩
  exact ⟨by simp, ⟨rfl, rfl, rfl, Nat.le_refl _, fun _ _ => rfl⟩⟩

theorem al_g0 : getL [128, 1] = (128, 2, 0) := by decide
theorem al_g1 : getL [172, 2, 7] = (300, 2, 0) := by decide
theorem al_g2 : getL [128] = (0, 0, 5) := by decide
theorem al_g3 : getL [128, 0] = (0, 0, 4) := by decide
theorem al_g4 : getL [] = (0, 0, 5) := by decide
theorem al_g5 : getL [255, 255, 255, 255, 255, 255, 255, 255, 255, 255] = (0, 0, 4) := by decide
theorem al_t0 : gtL [2, 97, 98, 99] = ([97, 98], 3, 0) := by decide
theorem al_t1 : gtL [3, 97, 98] = ([], 0, 5) := by decide
theorem al_t2 : gtL [0] = ([], 1, 0) := by decide
theorem al_u : unfoldN 128 = 64 := by decide
theorem al_s0 : strB [97, 98] = ⟨#[97, 98]⟩ := by decide
theorem al_s1 : strB [] = ⟨#[]⟩ := by decide
theorem al_p0 : [9] ++ vb 128 = [9, 128, 1] := by rw [vb_more (by omega), vb_low (by omega)]; rfl
theorem al_p1 : [7] ++ vb (foldN (-1)) = [7, 1] := by rw [show foldN (-1) = 1 from by decide, vb_low (by omega)]; rfl
theorem al_p2 : [] ++ vb (foldN (-64)) = [127] := by rw [show foldN (-64) = 127 from by decide, vb_low (by omega)]; rfl
theorem al_p3 : [] ++ vb (ByteArray.mk #[97, 98]).size ++ strN (ByteArray.mk #[97, 98]) = [2, 97, 98] := by rw [show (ByteArray.mk #[97, 98]).size = 2 from rfl, vb_low (by omega)]; rfl

set_option maxHeartbeats 4000000 in
set_option maxRecDepth 100000 in
theorem alive_any (w : World) : Calls Try.prog 20 #[] w fun e w' => e = .returned (.bool true) ∧ Below w.heap.size w w' := by
  have kc := fun (w : World) (C : Array Value) (n c : Nat) => Lib.run_convert_bytes_const (P := Try.prog) w 22 5 C n c Try.underlying22 Try.underlying5
  go_enter Try.func20, Try.ntmps20
  have T0 := Lib.hid (row_new w [255, 255, 255, 255, 255, 255, 255, 255, 255, 255] 10 w.heap.size (0, 0) rfl rfl (by decide) (by omega))
  have B0 := Lib.hid (below_alloc w (.cells (cells8 [255, 255, 255, 255, 255, 255, 255, 255, 255, 255]).toArray 5))
  go_wp2_with fail
  refine (getSigned_at _ 2 2 [128, 1] _ (row_new _ [128, 1] 2 _ (0, 0) (World.size_alloc _ _) rfl (by decide) (by omega)) 128 2 0 64 al_g0 al_u).mono ?_
  rintro e w1 ⟨rfl, hb⟩
  have B1 := Lib.hid (below_step B0.out hb)
  have T1 := Lib.hid (T0.out.step hb)
  clear hb B0 T0
  go_wp2_with fail
  refine (getText_at _ 4 4 [2, 97, 98, 99] _ (row_new _ [2, 97, 98, 99] 4 _ (4, 5) rfl rfl (by decide) (by omega)) [97, 98] 3 0 ⟨#[97, 98]⟩ al_t0 al_s0).mono ?_
  rintro e w2 ⟨rfl, hb⟩
  have B2 := Lib.hid (below_step B1.out hb)
  have T2 := Lib.hid (T1.out.step hb)
  clear hb B1 T1
  go_wp2_with fail
  refine (getText_at _ 3 3 [3, 97, 98] _ (row_new _ [3, 97, 98] 3 _ (3, 4) rfl rfl (by decide) (by omega)) [] 0 5 ⟨#[]⟩ al_t1 al_s1).mono ?_
  rintro e w3 ⟨rfl, hb⟩
  have B3 := Lib.hid (below_step B2.out hb)
  have T3 := Lib.hid (T2.out.step hb)
  clear hb B2 T2
  go_wp2_with fail
  refine (getText_at _ 1 1 [0] _ (row_new _ [0] 1 _ (0, 0) rfl rfl (by decide) (by omega)) [] 1 0 ⟨#[]⟩ al_t2 al_s1).mono ?_
  rintro e w4 ⟨rfl, hb⟩
  have B4 := Lib.hid (below_step B3.out hb)
  have T4 := Lib.hid (T3.out.step hb)
  clear hb B3 T3
  go_wp2_with fail
  refine (reads_yes _ 3 3 [172, 2, 7] _ (row_new _ [172, 2, 7] 3 _ (0, 0) rfl rfl (by decide) (by omega)) 300 2 0 al_g1).mono ?_
  rintro e w5 ⟨rfl, hb⟩
  have B5 := Lib.hid (below_step B4.out hb)
  have T5 := Lib.hid (T4.out.step hb)
  clear hb B4 T4
  go_wp2_with fail
  refine (reads_yes _ 1 1 [128] _ (row_new _ [128] 1 _ (0, 0) rfl rfl (by decide) (by omega)) 0 0 5 al_g2).mono ?_
  rintro e w6 ⟨rfl, hb⟩
  have B6 := Lib.hid (below_step B5.out hb)
  have T6 := Lib.hid (T5.out.step hb)
  clear hb B5 T5
  go_wp2_with fail
  refine (reads_yes _ 2 2 [128, 0] _ (row_new _ [128, 0] 2 _ (0, 0) rfl rfl (by decide) (by omega)) 0 0 4 al_g3).mono ?_
  rintro e w7 ⟨rfl, hb⟩
  have B7 := Lib.hid (below_step B6.out hb)
  have T7 := Lib.hid (T6.out.step hb)
  clear hb B6 T6
  go_wp2_with fail
  refine (reads_yes none 0 0 [] _ (row_nil _) 0 0 5 al_g4).mono ?_
  rintro e w8 ⟨rfl, hb⟩
  have B8 := Lib.hid (below_next B7.out hb)
  have T8 := Lib.hid (T7.out.kept hb)
  clear hb B7 T7
  go_wp2_with fail
  refine (reads_yes _ 10 10 _ _ T8.out 0 0 4 al_g5).mono ?_
  rintro e w9 ⟨rfl, hb⟩
  have B9 := Lib.hid (below_next B8.out hb)
  have T9 := Lib.hid (T8.out.kept hb)
  clear hb B8 T8
  go_wp2_with fail
  refine (new8_at al_p0 (put_any _ 1 1 [9] 128 (by omega) _ (row_new _ [9] 1 _ (0, 0) rfl rfl (by decide) (by omega)) (by omega))).mono ?_
  rintro e w10 ⟨a10, n10, c10, rfl, hr, _, hb⟩
  have B10 := Lib.hid (below_step B9.out hb)
  have R10 := Lib.hid hr
  clear hb hr B9
  go_wp2_with fail
  refine (sameBytes_at _ _ n10 3 c10 3 [9, 128, 1] _ (R10.out.alloc _) (row_new _ [9, 128, 1] 3 _ (0, 0) rfl rfl (by decide) (by omega))).mono ?_
  rintro e w11 ⟨rfl, hb⟩
  have B11 := Lib.hid (below_step B10.out hb)
  clear hb B10
  go_wp2_with fail
  refine (new8_at al_p1 (putSigned_any _ 1 1 [7] (-1) (by omega) _ (row_new _ [7] 1 _ (0, 0) rfl rfl (by decide) (by omega)) (by omega))).mono ?_
  rintro e w12 ⟨a12, n12, c12, rfl, hr, _, hb⟩
  have B12 := Lib.hid (below_step B11.out hb)
  have R12 := Lib.hid hr
  clear hb hr B11
  go_wp2_with fail
  refine (sameBytes_at _ _ n12 2 c12 2 [7, 1] _ (R12.out.alloc _) (row_new _ [7, 1] 2 _ (0, 0) rfl rfl (by decide) (by omega))).mono ?_
  rintro e w13 ⟨rfl, hb⟩
  have B13 := Lib.hid (below_step B12.out hb)
  clear hb B12
  go_wp2_with fail
  refine (new8_at al_p2 (putSigned_any none 0 0 [] (-64) (by omega) _ (row_nil _) (by omega))).mono ?_
  rintro e w14 ⟨a14, n14, c14, rfl, hr, _, hb⟩
  have B14 := Lib.hid (below_next B13.out hb)
  have R14 := Lib.hid hr
  clear hb hr B13
  go_wp2_with fail
  refine (sameBytes_at _ _ n14 1 c14 1 [127] _ (R14.out.alloc _) (row_new _ [127] 1 _ (0, 0) rfl rfl (by decide) (by omega))).mono ?_
  rintro e w15 ⟨rfl, hb⟩
  have B15 := Lib.hid (below_step B14.out hb)
  clear hb B14
  go_wp2_with fail
  refine (new8_at al_p3 (putText_any none 0 0 [] ⟨#[97, 98]⟩ _ (row_nil _) (by omega) (by decide))).mono ?_
  rintro e w16 ⟨a16, n16, c16, rfl, hr, _, hb⟩
  have B16 := Lib.hid (below_next B15.out hb)
  have R16 := Lib.hid hr
  clear hb hr B15
  go_wp2_with fail
  refine (sameBytes_at _ _ n16 3 c16 3 [2, 97, 98] _ (R16.out.alloc _) (row_new _ [2, 97, 98] 3 _ (0, 0) rfl rfl (by decide) (by omega))).mono ?_
  rintro e w17 ⟨rfl, hb⟩
  have B17 := Lib.hid (below_step B16.out hb)
  clear hb B16
  go_wp2
  go_ret
  exact ⟨rfl, B17.out⟩
end Go.Proofs.Ytoeafjdlnbcfiaa
