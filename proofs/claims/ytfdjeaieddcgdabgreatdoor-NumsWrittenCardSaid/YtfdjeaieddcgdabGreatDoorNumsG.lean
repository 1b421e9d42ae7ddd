/-
  WHAT IS PROVED: contracts of the statements' own helpers: reads, alive.
-/
import Derived.Lib.SlBytesConst
import Derived.Test.YtfdjeaieddcgdabGreatDoorNumsF
namespace Go.Proofs.YtfdjeaieddcgdabGreatDoor
open Go.RowKit

theorem get_at (ao : Option Addr) (n cap : Nat) (l : List Nat) (w : World) (hr : Row8 w ao n cap l) (v t er : Nat) (hg : getL l = (v, t, er)) :
    Calls Tryz.prog 299 #[.slice ao n cap] w fun e w' => e = .returned (.tuple #[.int .u64 (v : Int), .int .i64 (t : Int), .int .i64 (er : Int)]) ∧ Below w.heap.size w w' := by
  refine (get_any ao n cap l w hr).mono ?_
  rintro e w1 ⟨v', t', er', hg', rfl, hb⟩
  rw [hg] at hg'
  simp only [Prod.mk.injEq] at hg'
  obtain ⟨rfl, rfl, rfl⟩ := hg'
  exact ⟨rfl, hb⟩

theorem getSigned_at (ao : Option Addr) (n cap : Nat) (l : List Nat) (w : World) (hr : Row8 w ao n cap l) (v t er : Nat) (x : Int) (hg : getL l = (v, t, er)) (hx : unfoldN v = x) :
    Calls Tryz.prog 269 #[.slice ao n cap] w fun e w' => e = .returned (.tuple #[.int .i64 x, .int .i64 (t : Int), .int .i64 (er : Int)]) ∧ Below w.heap.size w w' := by
  refine (getSigned_any ao n cap l w hr).mono ?_
  rintro e w1 ⟨v', t', er', hg', rfl, hb⟩
  rw [hg] at hg'
  simp only [Prod.mk.injEq] at hg'
  obtain ⟨rfl, rfl, rfl⟩ := hg'
  subst hx
  exact ⟨rfl, hb⟩

theorem getText_at (ao : Option Addr) (n cap : Nat) (l : List Nat) (w : World) (hr : Row8 w ao n cap l) (s : List Nat) (t er : Nat) (x : ByteArray) (hg : gtL l = (s, t, er)) (hx : strB s = x) :
    Calls Tryz.prog 297 #[.slice ao n cap] w fun e w' => e = .returned (.tuple #[.string x, .int .i64 (t : Int), .int .i64 (er : Int)]) ∧ Below w.heap.size w w' := by
  refine (getText_any ao n cap l w hr).mono ?_
  rintro e w1 ⟨s', t', er', hg', rfl, hb⟩
  rw [hg] at hg'
  simp only [Prod.mk.injEq] at hg'
  obtain ⟨rfl, rfl, rfl⟩ := hg'
  subst hx
  exact ⟨rfl, hb⟩

/-- Put, PutSigned, PutText where the bytes are known -/
theorem new8_at {w : World} {l m : List Nat} (h : l = m) {f : FuncId} {args : Array Value} (hc : Calls Tryz.prog f args w (New8 w l)) : Calls Tryz.prog f args w (New8 w m) := h ▸ hc

theorem sameBytes_at (a b : Option Addr) (n m ca cb : Nat) (l : List Nat) (w : World) (hl : Row8 w a n ca l) (hr : Row8 w b m cb l) :
    Calls Tryz.prog 19 #[.slice a n ca, .slice b m cb] w fun e w' => e = .returned (.bool true) ∧ Below w.heap.size w w' := by
  refine (sameBytes_any a b n m ca cb l l w hl hr).mono ?_
  rintro e w' ⟨rfl, k, rfl⟩
  exact ⟨by simp, ⟨rfl, rfl, rfl, Nat.le_refl _, fun _ _ => rfl⟩⟩

theorem al_g0 : getL [128, 1] = (128, 2, 0) := by decide
theorem al_g1 : getL [172, 2, 7] = (300, 2, 0) := by decide
theorem al_g2 : getL [128] = (0, 0, 5) := by decide
theorem al_g3 : getL [128, 0] = (0, 0, 4) := by decide
theorem al_g4 : getL [] = (0, 0, 5) := by decide
theorem al_g5 : getL [255, 255, 255, 255, 255, 255, 255, 255, 255, 255] = (0, 0, 4) := by decide
theorem al_t0 : gtL [2, 97, 98, 99] = ([97, 98], 3, 0) := by decide
theorem al_t1 : gtL [3, 97, 98] = ([], 0, 5) := by decide
theorem al_t2 : gtL [0] = ([], 1, 0) := by decide
theorem al_u : unfoldN 128 = 64 := by decide
theorem al_s0 : strB [97, 98] = ⟨#[97, 98]⟩ := by decide
theorem al_s1 : strB [] = ⟨#[]⟩ := by decide
theorem al_p0 : [9] ++ vb 128 = [9, 128, 1] := by rw [vb_more (by omega), vb_low (by omega)]; rfl
theorem al_p1 : [7] ++ vb (foldN (-1)) = [7, 1] := by rw [show foldN (-1) = 1 from by decide, vb_low (by omega)]; rfl
theorem al_p2 : [] ++ vb (foldN (-64)) = [127] := by rw [show foldN (-64) = 127 from by decide, vb_low (by omega)]; rfl
theorem al_p3 : [] ++ vb (ByteArray.mk #[97, 98]).size ++ strN (ByteArray.mk #[97, 98]) = [2, 97, 98] := by rw [show (ByteArray.mk #[97, 98]).size = 2 from rfl, vb_low (by omega)]; rfl

end Go.Proofs.YtfdjeaieddcgdabGreatDoor
