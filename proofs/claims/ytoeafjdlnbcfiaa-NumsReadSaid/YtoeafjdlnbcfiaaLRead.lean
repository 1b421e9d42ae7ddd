/-
  WHAT IS PROVED: the walk of NumsRead.
-/
import Derived.Test.YtoeafjdlnbcfiaaRefB
import Derived.Test.YtoeafjdlnbcfiaaTwin
import Derived.Test.YtoeafjdlnbcfiaaLDigits
namespace Go.Proofs.Ytoeafjdlnbcfiaa
open Go.RowKit

theorem refGet_at (ao : Option Addr) (n cap : Nat) (l : List Nat) (w : World) (hr : Row8 w ao n cap l) (v t er : Nat) (hg : getL l = (v, t, er)) :
    Calls Try.prog 13 #[.slice ao n cap] w fun e w' => e = .returned (.tuple #[.int .u64 (v : Int), .int .i64 (t : Int), .int .i64 (er : Int)]) ∧ Below w.heap.size w w' := by
  refine (refGet_any ao n cap l w hr).mono ?_
  rintro e w1 ⟨v', t', er', hg', rfl, hb⟩
  rw [hg] at hg'
  simp only [Prod.mk.injEq] at hg'
  obtain ⟨rfl, rfl, rfl⟩ := hg'
  exact ⟨rfl, hb⟩

theorem refGetSigned_at (ao : Option Addr) (n cap : Nat) (l : List Nat) (w : World) (hr : Row8 w ao n cap l) (v t er : Nat) (x : Int) (hg : getL l = (v, t, er)) (hx : unfoldN v = x) :
    Calls Try.prog 15 #[.slice ao n cap] w fun e w' => e = .returned (.tuple #[.int .i64 x, .int .i64 (t : Int), .int .i64 (er : Int)]) ∧ Below w.heap.size w w' := by
  refine (refGetSigned_any ao n cap l w hr).mono ?_
  rintro e w1 ⟨v', t', er', hg', rfl, hb⟩
  rw [hg] at hg'
  simp only [Prod.mk.injEq] at hg'
  obtain ⟨rfl, rfl, rfl⟩ := hg'
  subst hx
  exact ⟨rfl, hb⟩

theorem refGetText_at (ao : Option Addr) (n cap : Nat) (l : List Nat) (w : World) (hr : Row8 w ao n cap l) (s : List Nat) (t er : Nat) (x : ByteArray) (hg : gtL l = (s, t, er)) (hx : strB s = x) :
    Calls Try.prog 17 #[.slice ao n cap] w fun e w' => e = .returned (.tuple #[.string x, .int .i64 (t : Int), .int .i64 (er : Int)]) ∧ Below w.heap.size w w' := by
  refine (refGetText_any ao n cap l w hr).mono ?_
  rintro e w1 ⟨s', t', er', hg', rfl, hb⟩
  rw [hg] at hg'
  simp only [Prod.mk.injEq] at hg'
  obtain ⟨rfl, rfl, rfl⟩ := hg'
  subst hx
  exact ⟨rfl, hb⟩

set_option maxRecDepth 100000 in
set_option maxHeartbeats 4000000 in
theorem walk_NumsRead (a : Option Addr) (len cap : Nat) (l : List Nat) (w : World) (hrow : Row8 w a len cap l) :
    Calls Try.prog 3 #[.slice a len cap] w fun e w' => e = .returned (.bool true) ∧ Below w.heap.size w w' := by
  have hroom := hrow.room
  have hmost := hrow.most
  have HR := Lib.hid hrow
  have hlen := Lib.hid hrow.len
  clear hrow
  by_cases hbig : 1048576 < len
  · have hd : decide (1048576 < len) = true := by simpa using hbig
    go_enter Try.func3, Try.ntmps3
    go_wp2_with (go_at_call 10; refine (beyond_one len w (by omega) _ hd).mono ?_; rintro e w' ⟨rfl, rfl⟩)
    go_ret
    exact ⟨rfl, below_alloc _ _⟩
  · have hd : decide (1048576 < len) = false := by simpa using hbig
    obtain ⟨v, t, er, hg⟩ : ∃ v t er, getL l = (v, t, er) := ⟨_, _, _, rfl⟩
    obtain ⟨s, t2, er2, hg2⟩ : ∃ s t2 er2, gtL l = (s, t2, er2) := ⟨_, _, _, rfl⟩
    obtain ⟨x, hx⟩ : ∃ x, unfoldN v = x := ⟨_, rfl⟩
    obtain ⟨sb, hsb⟩ : ∃ sb, strB s = sb := ⟨_, rfl⟩
    have HG := Lib.hid hg
    have HG2 := Lib.hid hg2
    have HX := Lib.hid hx
    have HSB := Lib.hid hsb
    clear hg hg2 hx hsb
    go_enter Try.func3, Try.ntmps3
    go_wp2_with (go_at_call 10; refine (beyond_one len w (by omega) _ hd).mono ?_; rintro e w' ⟨rfl, rfl⟩)
    refine (twinBytes_any a len cap l _ (HR.out.alloc _) (by omega)).mono ?_
    rintro e w1 ⟨g, ct, rfl, ht, _, hb⟩
    have B1 := Lib.hid (below_step (Below.refl w.heap.size w) hb)
    have T1 := Lib.hid ht
    clear ht hb
    have hln := hlen.out
    rw [hln] at T1 ⊢
    clear hln
    have I1 : Hid (Row8 w1 (some ⟨g, 0, none⟩) len ct l) := by
      have := T1.out.upto len (by omega)
      have e : (l ++ [77]).take len = l := by rw [← hlen.out]; simp
      rw [e] at this
      exact this
    have R1 := Lib.hid (HR.out.kept B1.out)
    go_wp2_with fail
    refine (get_at _ _ _ _ _ I1.out v t er HG.out).mono ?_
    rintro e w2 ⟨rfl, hb⟩
    have B2 := Lib.hid (below_next B1.out hb)
    have T2 := Lib.hid (T1.out.kept hb)
    have I2 := Lib.hid (I1.out.kept hb)
    have R2 := Lib.hid (R1.out.kept hb)
    clear hb B1 T1 I1 R1
    go_wp2_with fail
    refine (refGet_at _ _ _ _ _ R2.out v t er HG.out).mono ?_
    rintro e w3 ⟨rfl, hb⟩
    have B3 := Lib.hid (below_next B2.out hb)
    have T3 := Lib.hid (T2.out.kept hb)
    have I3 := Lib.hid (I2.out.kept hb)
    have R3 := Lib.hid (R2.out.kept hb)
    clear hb B2 T2 I2 R2
    go_wp2_with fail
    refine (getSigned_at _ _ _ _ _ I3.out v t er x HG.out HX.out).mono ?_
    rintro e w4 ⟨rfl, hb⟩
    have B4 := Lib.hid (below_next B3.out hb)
    have T4 := Lib.hid (T3.out.kept hb)
    have I4 := Lib.hid (I3.out.kept hb)
    have R4 := Lib.hid (R3.out.kept hb)
    clear hb B3 T3 I3 R3
    go_wp2_with fail
    refine (refGetSigned_at _ _ _ _ _ R4.out v t er x HG.out HX.out).mono ?_
    rintro e w5 ⟨rfl, hb⟩
    have B5 := Lib.hid (below_next B4.out hb)
    have T5 := Lib.hid (T4.out.kept hb)
    have I5 := Lib.hid (I4.out.kept hb)
    have R5 := Lib.hid (R4.out.kept hb)
    clear hb B4 T4 I4 R4
    go_wp2_with fail
    refine (getText_at _ _ _ _ _ I5.out s t2 er2 sb HG2.out HSB.out).mono ?_
    rintro e w6 ⟨rfl, hb⟩
    have B6 := Lib.hid (below_next B5.out hb)
    have T6 := Lib.hid (T5.out.kept hb)
    have R6 := Lib.hid (R5.out.kept hb)
    clear hb B5 T5 I5 R5
    go_wp2_with fail
    refine (refGetText_at _ _ _ _ _ R6.out s t2 er2 sb HG2.out HSB.out).mono ?_
    rintro e w7 ⟨rfl, hb⟩
    have B7 := Lib.hid (below_next B6.out hb)
    have T7 := Lib.hid (T6.out.kept hb)
    have R7 := Lib.hid (R6.out.kept hb)
    clear hb B6 T6 R6
    go_wp2_with fail
    refine (leftBytes_yes _ _ _ _ _ l _ T7.out R7.out).mono ?_
    rintro e w8 ⟨rfl, hb⟩
    go_wp2
    go_ret
    exact ⟨rfl, below_next B7.out hb⟩
end Go.Proofs.Ytoeafjdlnbcfiaa
