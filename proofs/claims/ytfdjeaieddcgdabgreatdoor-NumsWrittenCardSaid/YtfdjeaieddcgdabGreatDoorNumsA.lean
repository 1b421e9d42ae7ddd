/-
  WHAT IS PROVED: contracts of package nums: the digits of a number, given one by one by a closure, and its bytes, gathered in new memory.
-/
import Derived.Test.YtfdjeaieddcgdabGreatDoorRows
import Derived.Test.YtfdjeaieddcgdabGreatDoorKit
namespace Go.Proofs.YtfdjeaieddcgdabGreatDoor
open Go.RowKit

/-- the block that digits lays: a captured number -/
theorem digits_any (n : Nat) (w : World) :
    Calls Tryz.prog 285 #[.int .u64 (n : Int)] w fun e w' =>
      e = .returned (.func (.func 327) #[] #[.pointer (some ⟨w.heap.size, 0, none⟩)]) ∧ w.alloc (.cells #[.int .u64 (n : Int)] 104) = w' := by
  have hmf : ∀ (fn : Fn) (first cap : Array Value) (w : World), (Instr.makeFunc fn first cap).run Tryz.prog w = .ok (.func fn first cap) w := fun _ _ _ _ => rfl
  go_enter Tryz.func285, Tryz.ntmps285
  go_wp2
  go_ret
  exact ⟨rfl, rfl⟩

theorem digits1_any (B n : Nat) (w : World) (hB : w.heap[B]? = some (.cells #[.int .u64 (n : Int)] 104 (0, 0))) :
    Calls Tryz.prog 327 #[.pointer (some ⟨B, 0, none⟩)] w fun e w' =>
      e = .returned (.tuple #[.int .u8 ((n % 128 : Nat) : Int), .bool (decide (128 ≤ n))]) ∧ w'.heap[B]? = some (.cells #[.int .u64 ((n / 128 : Nat) : Int)] 104 (0, 0)) ∧ w.grownBy w' (some B) := by
  have hb := cell_of_one hB
  have hf := free_of_one hB
  have hb' := World.cell?_setCell_same w ⟨B, 0, none⟩ (.int .u64 ((n : Int) / 128)) hb
  have HB := Lib.hid hB
  clear hB
  go_enter Tryz.func327, Tryz.ntmps327
  go_wp2
  go_quiet (fail)
  go_wp2
  go_ret2
  refine ⟨?_, ?_, ?_⟩
  · have : decide ((0 : Int) < (n : Int) / 128) = decide (128 ≤ n) := by rw [Bool.eq_iff_iff]; simp; omega
    simp [this]
  · exact one_setCell HB.out
  · exact grownBy_drewN (grownBy_setCell w B _) _

/-- what stands ahead of a round of bytesOf: so many bytes are gathered, and a number is left -/
def BoRel (n : Nat) (w : World) (v : Value) (wr : World) : Prop :=
  ∃ acc m, acc ++ vb m = vb n ∧ m < 18446744073709551616 ∧ wr.ownsRow w.heap.size 5 1 v acc.length (cells8 acc) ∧
    wr.heap[w.heap.size + 1]? = some (.cells #[.int .u64 (m : Int)] 104 (0, 0)) ∧ Below w.heap.size w wr ∧ w.heap.size + 2 ≤ wr.heap.size

/-- the number that a block holds: the measure of bytesOf's loop -/
def boNum (o : Option Obj) : Nat := match o with | some (.cells c _ _) => (intOf (c.getD 0 undef)).toNat | _ => 0
theorem boNum_of (m : Nat) (t : TypeId) : boNum (some (.cells #[.int .u64 (m : Int)] t (0, 0))) = m := by simp [boNum, intOf]

theorem block_new2 (w : World) (o o' : Obj) : ((w.alloc o).alloc o').heap[w.heap.size + 1]? = some o' := by
  have := heap_alloc_new (w.alloc o) o'
  simpa using this

set_option maxHeartbeats 1000000 in
/-- A number's bytes, in new memory. -/
theorem bytesOf_any (n : Nat) (hn : n < 18446744073709551616) (w : World) :
    Calls Tryz.prog 182 #[.int .u64 (n : Int)] w fun e w' =>
      ∃ v, e = .returned v ∧ w'.ownsRow w.heap.size 5 1 v (vb n).length (cells8 (vb n)) ∧ Below w.heap.size w w' := by
  have hmk : ∀ w : World, (Instr.makeSlice 29 (.int .i64 0) (.int .i64 10)).run Tryz.prog w = .ok (.slice (some ⟨w.heap.size, 0, none⟩) 0 10) (w.alloc (.cells #[.int .u8 0, .int .u8 0, .int .u8 0, .int .u8 0, .int .u8 0, .int .u8 0, .int .u8 0, .int .u8 0, .int .u8 0, .int .u8 0] 5)) := fun _ => by kernel_rfl
  obtain ⟨i0, hi, hz0, hz1, hz2⟩ := info_parts Tryz.info8
  go_enter Tryz.func182, Tryz.ntmps182
  go_wp2_with (go_at_call 285; refine (digits_any _ _).mono ?_; rintro e w1 ⟨rfl, rfl⟩)
  go_loopw [3] (fun l wr => BoRel n w l wr) (fun _ wr => boNum wr.heap[w.heap.size + 1]?)
  case atStart =>
    refine ⟨[], n, rfl, hn, ?_, ?_, ?_, ?_⟩
    · exact (World.ownsRow_made w _ 10 (Nat.le_refl _) (by simp [maxLen]) (by rfl)).alloc _
    · exact block_new2 w _ _
    · exact ((Below.refl _ _).alloc (Nat.le_refl _) _).alloc (by simp) _
    · simp
  case round =>
    obtain ⟨acc, m, hacc, hm, hown, hB, hbel, hsz⟩ := hrel
    have HB := Lib.hid hB
    have HA := Lib.hid hacc
    clear hB hacc
    have hal : acc.length ≤ 10 := by have := vb_len64 hn; rw [← HA.out, List.length_append] at this; omega
    have hnews : ∀ (w1 : World) (x : Value) (j : Nat) (u : Value), [x][j]? = some u → (w1.alloc (.cells #[x] 5)).cell? ((⟨w1.heap.size, 0, none⟩ : Addr).add j) = some u := by
      intro w1 x j u hj
      match j, hj with
      | 0, hj => simp at hj; subst hj; simp [Addr.add]
    by_cases hlt : m < 128
    · have hd : decide (128 ≤ m) = false := by simpa using hlt
      have HN := Lib.hid hnews
      clear hnews
      go_wp2_with (first
        | (go_at_call 327; refine (digits1_any _ m _ HB.out).mono ?_; rintro e w1 ⟨rfl, hB1, hg1⟩; have HB1 := Lib.hid hB1; clear hB1; have hown1 := hown.kept hg1 (.inr (own_ne hown HB.out (by decide))))
        | (at_builtin; refine wpList_append_own _ rfl (.tmp 17) (.tmp 19) 29 rfl w.heap.size 5 i0 (.int .u8 0) 1 1 Tryz.underlying29 hi hz0 hz1 hz2 rfl (by decide) _ _ _ rfl (hown1.alloc _) ⟨w1.heap.size, 0, none⟩ 1 1 [.int .u8 ((m : Int) % 128)] rfl rfl ?c1 ?c2 ?c3 ?c4 ?c5 ?_))
      case c1 => exact HN.out _ _
      case c2 => intro u hu; simp at hu; subst hu; rfl
      case c3 => unfold maxLen; omega
      case c4 => omega
      case c5 => have := hg1.size; simp; omega
      intro v' w2 hown2 hg2 _
      go_wp2
      go_ret
      refine ⟨_, rfl, ?_, ?_⟩
      · have e : vb n = acc ++ [m] := by rw [← HA.out, vb_low hlt]
        have e2 : ((m : Int) % 128) = (m : Int) := by omega
        rw [e, List.length_append, ← cells8_append]
        rw [e2] at hown2
        exact hown2
      · have hb1 : Below w.heap.size w w1 := hbel.grown hg1 (by omega) (by intro k hk; cases hk; omega)
        have hs1 := hg1.size
        exact (hb1.alloc (by omega) _).grown hg2 (by simp; omega) (fun k hk => (hown.lt k hk).1)
    · have hd : decide (128 ≤ m) = true := by simpa using hlt
      have HN := Lib.hid hnews
      clear hnews
      go_wp2_with (first
        | (go_at_call 327; refine (digits1_any _ m _ HB.out).mono ?_; rintro e w1 ⟨rfl, hB1, hg1⟩; have HB1 := Lib.hid hB1; clear hB1; have hown1 := hown.kept hg1 (.inr (own_ne hown HB.out (by decide))))
        | (at_builtin; refine wpList_append_own _ rfl (.tmp 21) (.tmp 24) 29 rfl w.heap.size 5 i0 (.int .u8 0) 1 1 Tryz.underlying29 hi hz0 hz1 hz2 rfl (by decide) _ _ _ rfl (hown1.alloc _) ⟨w1.heap.size, 0, none⟩ 1 1 [.int .u8 ((m : Int) % 128 + 128)] rfl rfl ?d1 ?d2 ?d3 ?d4 ?d5 ?_))
      case d1 => exact HN.out _ _
      case d2 => intro u hu; simp at hu; subst hu; rfl
      case d3 => unfold maxLen; omega
      case d4 => omega
      case d5 => have := hg1.size; simp; omega
      intro v' w2 hown2 hg2 _
      have hs1 := hg1.size
      have hs2 := hg2.size
      have hB2 : w2.heap[w.heap.size + 1]? = some (.cells #[.int .u64 ((m / 128 : Nat) : Int)] 104 (0, 0)) := by
        rw [hg2.block _ (by simp; omega) (fun h => own_ne hown HB.out (by decide) h.symm), Below.heap_alloc _ _ _ (by omega)]
        exact HB1.out
      have hR : BoRel n w v' w2 := by
        refine ⟨acc ++ [m % 128 + 128], m / 128, ?_, by omega, ?_, hB2, ?_, ?_⟩
        · rw [← HA.out, vb_more (n := m) (by omega)]; simp
        · rw [List.length_append, ← cells8_append]
          exact hown2
        · have hb1 : Below w.heap.size w w1 := hbel.grown hg1 (by omega) (by intro k hk; cases hk; omega)
          exact (hb1.alloc (by omega) _).grown hg2 (by simp; omega) (fun k hk => (hown.lt k hk).1)
        · simp at hs2; omega
      go_wp2
      go_roundw
      case rel => first | exact hR | ((repeat apply Exists.intro); exact ⟨hR, rfl⟩)
      case measure =>
        rw [hB2, HB.out, boNum_of, boNum_of]
        omega
end Go.Proofs.YtfdjeaieddcgdabGreatDoor
