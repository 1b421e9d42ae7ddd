/-
  WHAT IS PROVED: contract of journals: the part at a place.
-/
import Derived.Test.YtkmanpmaflpgoaaJWritten
import Derived.BigRegion
namespace Go.Proofs.Ytkmanpmaflpgoaa
open Go.RowKit Go.Lib

theorem or_i64_join (x y : Nat) (hx : x < 256) (hy : y < 256) : bits .or .i64 ((x : Int) * 256) (y : Int) = (x : Int) * 256 + (y : Int) := by
  have e : (x : Int) * 256 = ((x * 256 : Nat) : Int) := by omega
  rw [e]
  show IntKind.i64.wrap ((BitVec.ofInt 64 ((x * 256 : Nat) : Int) ||| BitVec.ofInt 64 ((y : Nat) : Int)).toNat : Int) = _
  rw [BitVec.ofInt_natCast, BitVec.ofInt_natCast, BitVec.toNat_or, BitVec.toNat_ofNat, BitVec.toNat_ofNat, Nat.mod_eq_of_lt (by omega), Nat.mod_eq_of_lt (by omega)]
  have : x * 256 ||| y = x * 256 + y := by
    rw [show x * 256 = 2 ^ 8 * x by omega, ← Nat.two_pow_add_eq_or_of_lt (by omega)]
  rw [this, IntKind.wrap_i64]
  omega
theorem or_u32_join (x0 x1 x2 x3 : Nat) (h0 : x0 < 256) (h1 : x1 < 256) (h2 : x2 < 256) (h3 : x3 < 256) :
    bits .or .u32 (bits .or .u32 (bits .or .u32 ((x0 : Int) * 16777216) ((x1 : Int) * 65536)) ((x2 : Int) * 256)) (x3 : Int) = ((x0 * 16777216 + x1 * 65536 + x2 * 256 + x3 : Nat) : Int) := by
  have j : ∀ (p q i : Nat), q < 2 ^ i → p * 2 ^ i ||| q = p * 2 ^ i + q := fun p q i hq => by
    rw [Nat.mul_comm, ← Nat.two_pow_add_eq_or_of_lt hq]
  rw [u32_or ((x0 : Int) * 16777216) ((x1 : Int) * 65536) (by omega) (by omega) (by omega) (by omega)]
  have e1 : ((x0 : Int) * 16777216).toNat ||| ((x1 : Int) * 65536).toNat = x0 * 16777216 + x1 * 65536 := by
    rw [show ((x0 : Int) * 16777216).toNat = x0 * 2 ^ 24 by omega, show ((x1 : Int) * 65536).toNat = x1 * 65536 by omega, j _ _ _ (by omega)]
  rw [e1, u32_or ((x0 * 16777216 + x1 * 65536 : Nat) : Int) ((x2 : Int) * 256) (by omega) (by omega) (by omega) (by omega), Int.toNat_natCast]
  have e2 : (x0 * 16777216 + x1 * 65536) ||| ((x2 : Int) * 256).toNat = x0 * 16777216 + x1 * 65536 + x2 * 256 := by
    rw [show (x0 * 16777216 + x1 * 65536) = (x0 * 256 + x1) * 2 ^ 16 by omega, show ((x2 : Int) * 256).toNat = x2 * 256 by omega, j _ _ _ (by omega)]
  rw [e2, u32_or ((x0 * 16777216 + x1 * 65536 + x2 * 256 : Nat) : Int) (x3 : Int) (by omega) (by omega) (by omega) (by omega), Int.toNat_natCast, Int.toNat_natCast]
  have e3 : (x0 * 16777216 + x1 * 65536 + x2 * 256) ||| x3 = x0 * 16777216 + x1 * 65536 + x2 * 256 + x3 := by
    rw [show (x0 * 16777216 + x1 * 65536 + x2 * 256) = (x0 * 65536 + x1 * 256 + x2) * 2 ^ 8 by omega, j _ _ _ (by omega)]
  rw [e3]

/-- the part of a slice that a place has, as a value -/
def partV (ao : Option Addr) (cap : Nat) (l : List Nat) (a : Nat) : Value := .agg #[.int .u8 (l.getD (a + 6) 0 : Nat), .slice (cutA ao cap (a + 7)) (sizeAt l a) (cap - (a + 7))]
def noPartV : Value := .agg #[.int .u8 0, .slice none 0 0]

theorem byte_at {l : List Nat} (h : ∀ x ∈ l, x < 256) (j : Nat) : l.getD j 0 < 256 := by
  by_cases hj : j < l.length
  · simp only [List.getD, List.getElem?_eq_getElem hj, Option.getD_some]; exact h _ (List.getElem_mem _)
  · simp [List.getD, List.getElem?_eq_none (by omega : l.length ≤ j)]

set_option maxRecDepth 100000 in
set_option maxHeartbeats 4000000 in
theorem partAt_short (l : List Nat) (a : Nat) (ao : Option Addr) (n cap : Nat) (w : World) (hr : Row8 w ao n cap l) (ha : a ≤ 1073741824) (h : n < a + 7) :
    Calls Try.prog 54 #[.slice ao n cap, .int .i64 a] w fun e w' => e = .returned (.tuple #[noPartV, .bool false]) ∧ Below w.heap.size w w' := by
  have hm := hr.most
  have hrm := hr.room
  have HB := Lib.hid (below_alloc w (.cells #[.int .u8 0, .slice none 0 0] 85))
  clear hr
  go_enter Try.func54, Try.ntmps54
  go_wp2
  exact bodyPost_ret (v := .tuple #[noPartV, .bool false]) (by simp [results, Try.results54, noPartV, go_sem]) rfl ⟨rfl, HB.out⟩

def partIf (ao : Option Addr) (cap : Nat) (l : List Nat) (a : Nat) : Value := if partOk l a then partV ao cap l a else noPartV

set_option maxRecDepth 100000 in
set_option maxHeartbeats 4000000 in
theorem partAt_long (l : List Nat) (a : Nat) (ao : Option Addr) (n cap : Nat) (w : World) (hr : Row8 w ao n cap l) (ha : a ≤ 1073741824) (h : ¬ n < a + 7) :
    Calls Try.prog 54 #[.slice ao n cap, .int .i64 a] w fun e w' => e = .returned (.tuple #[partIf ao cap l a, .bool (partOk l a)]) ∧ Below w.heap.size w w' := by
  have hm := hr.most
  have hrm := hr.room
  obtain ⟨b, off, rfl, hcell⟩ := hr.lies (by omega)
  have hlen := hr.len
  have hx : ∀ j, j < 7 → (w.alloc (.cells #[.int .u8 0, .slice none 0 0] 85)).cell? ⟨b, off + a + j, none⟩ = some (.int .u8 (l.getD (a + j) 0 : Nat)) := fun j hj => by
    have h1 := hcell (a + j) (l.getD (a + j) 0) (by have : a + j < l.length := by omega
                                                    simp [List.getD, this])
    rw [← Nat.add_assoc] at h1
    exact ((below_alloc w _).cell (p := ⟨b, off + a + j, none⟩) (World.block_lt_of_cell? w _ h1)).trans h1
  have c0 := hx 0 (by omega)
  have c1 := hx 1 (by omega)
  have c2 := hx 2 (by omega)
  have c3 := hx 3 (by omega)
  have c4 := hx 4 (by omega)
  have c5 := hx 5 (by omega)
  have c6 := hx 6 (by omega)
  have b0 := byte_at hr.byte (a + 0)
  have b1 := byte_at hr.byte (a + 1)
  have b2 := byte_at hr.byte (a + 2)
  have b3 := byte_at hr.byte (a + 3)
  have b4 := byte_at hr.byte (a + 4)
  have b5 := byte_at hr.byte (a + 5)
  have b6 := byte_at hr.byte (a + 6)
  have HS : Hid (sizeAt l a = l.getD (a + 4) 0 * 256 + l.getD (a + 5) 0) := rfl
  have HF : Hid (four l a = l.getD (a + 0) 0 * 16777216 + l.getD (a + 1) 0 * 65536 + l.getD (a + 2) 0 * 256 + l.getD (a + 3) 0) := rfl
  have HK : Hid (l.getD (a + 6) 0 = l.getD (a + 6) 0) := rfl
  have HR := Lib.hid hr
  clear hx hcell hr
  obtain ⟨x0, hx0⟩ : ∃ x, l.getD (a + 0) 0 = x := ⟨_, rfl⟩
  obtain ⟨x1, hx1⟩ : ∃ x, l.getD (a + 1) 0 = x := ⟨_, rfl⟩
  obtain ⟨x2, hx2⟩ : ∃ x, l.getD (a + 2) 0 = x := ⟨_, rfl⟩
  obtain ⟨x3, hx3⟩ : ∃ x, l.getD (a + 3) 0 = x := ⟨_, rfl⟩
  obtain ⟨x4, hx4⟩ : ∃ x, l.getD (a + 4) 0 = x := ⟨_, rfl⟩
  obtain ⟨x5, hx5⟩ : ∃ x, l.getD (a + 5) 0 = x := ⟨_, rfl⟩
  obtain ⟨x6, hx6⟩ : ∃ x, l.getD (a + 6) 0 = x := ⟨_, rfl⟩
  rw [hx0] at c0 b0 HF
  rw [hx1] at c1 b1 HF
  rw [hx2] at c2 b2 HF
  rw [hx3] at c3 b3 HF
  rw [hx4] at c4 b4 HS
  rw [hx5] at c5 b5 HS
  rw [hx6] at c6 b6
  have HX6 := Lib.hid hx6
  clear hx0 hx1 hx2 hx3 hx4 hx5 hx6
  have ho := Lib.hid (or_i64_join x4 x5 b4 b5)
  obtain ⟨ok, hok⟩ : ∃ ok, partOk l a = ok := ⟨_, rfl⟩
  obtain ⟨pv, hpv⟩ : ∃ pv, partIf (some ⟨b, off, none⟩) cap l a = pv := ⟨_, rfl⟩
  rw [hok, hpv]
  have hno : ok = false → pv = noPartV := fun h => by rw [← hpv]; unfold partIf; rw [hok, h]; rfl
  have hyes : ok = true → pv = partV (some ⟨b, off, none⟩) cap l a := fun h => by rw [← hpv]; unfold partIf; rw [hok, h]; rfl
  have hdef : ok = (decide (a + 7 ≤ l.length) && (decide (7 + sizeAt l a ≤ roomN a) && (decide (a + 7 + sizeAt l a ≤ l.length) && decide (four l a = crcN (l.getD (a + 6) 0) (dataAt l a))))) := hok.symm
  rw [HS.out] at hdef
  have HNO := Lib.hid hno
  have HYES := Lib.hid hyes
  have HDEF := Lib.hid hdef
  have HLEN := Lib.hid hlen
  have HB := Lib.hid (below_alloc w (.cells #[.int .u8 0, .slice none 0 0] 85))
  obtain ⟨R, hR⟩ : ∃ R, roomN a = R := ⟨_, rfl⟩
  have HRR := Lib.hid hR
  clear hok hpv hno hyes hdef hlen HK hR
  by_cases hr1 : R < 7 + (x4 * 256 + x5)
  · have hd : decide ((R : Int) < 7 + ((x4 : Int) * 256 + (x5 : Int))) = true := by simp; omega
    go_enter Try.func54, Try.ntmps54
    go_wp2
    go_quiet (fail)
    rw [ho.out]
    go_wp2_with fail
    refine (room_n a _).mono ?_
    rintro e w' ⟨rfl, rfl⟩
    rw [HRR.out]
    go_wp2
    have h0 : ok = false := by rw [HDEF.out, HRR.out]; simp; omega
    rw [HNO.out h0, h0]
    exact bodyPost_ret (v := .tuple #[noPartV, .bool false]) (by simp [results, Try.results54, noPartV, go_sem]) rfl ⟨rfl, ((HB.out.trans ((Below.drewN_refl _ nq).mono (by simp))).setCell (p := ⟨w.heap.size, 0, none⟩) (Nat.le_refl _) _).setCell (p := ⟨w.heap.size, 1, none⟩) (Nat.le_refl _) _⟩
  · have hd : decide ((R : Int) < 7 + ((x4 : Int) * 256 + (x5 : Int))) = false := by simp; omega
    by_cases hr2 : n < a + 7 + (x4 * 256 + x5)
    · have hd2 : decide ((n : Int) < (a : Int) + 7 + ((x4 : Int) * 256 + (x5 : Int))) = true := by simp; omega
      go_enter Try.func54, Try.ntmps54
      go_wp2
      go_quiet (fail)
      rw [ho.out]
      go_wp2_with fail
      refine (room_n a _).mono ?_
      rintro e w' ⟨rfl, rfl⟩
      rw [HRR.out]
      go_wp2
      have h0 : ok = false := by rw [HDEF.out, HRR.out, HLEN.out]; simp; omega
      rw [HNO.out h0, h0]
      exact bodyPost_ret (v := .tuple #[noPartV, .bool false]) (by simp [results, Try.results54, noPartV, go_sem]) rfl ⟨rfl, ((HB.out.trans ((Below.drewN_refl _ nq).mono (by simp))).setCell (p := ⟨w.heap.size, 0, none⟩) (Nat.le_refl _) _).setCell (p := ⟨w.heap.size, 1, none⟩) (Nat.le_refl _) _⟩
    · have hd2 : decide ((n : Int) < (a : Int) + 7 + ((x4 : Int) * 256 + (x5 : Int))) = false := by simp; omega
      obtain ⟨s, hs⟩ : ∃ s, s = x4 * 256 + x5 := ⟨_, rfl⟩
      have hcut : ∀ W, (Instr.slice 22 (.slice (some ⟨b, off, none⟩) n cap) (some (.int .i64 ((a : Int) + 7))) (some (.int .i64 ((a : Int) + 7 + ((x4 : Int) * 256 + (x5 : Int))))) none).run Try.prog W = .ok (.slice (cutA (some ⟨b, off, none⟩) cap (a + 7)) s (cap - (a + 7))) W := fun W => by
        have := run_cut_both W (some ⟨b, off, none⟩) n cap (a + 7) (a + 7 + s) (by omega) (by omega)
        rw [show ((a + 7 : Nat) : Int) = (a : Int) + 7 by omega, show ((a + 7 + s : Nat) : Int) = (a : Int) + 7 + ((x4 : Int) * 256 + (x5 : Int)) by omega, show a + 7 + s - (a + 7) = s by omega] at this
        exact this
      go_enter Try.func54, Try.ntmps54
      go_wp2
      go_quiet (fail)
      rw [ho.out]
      go_wp2_with fail
      refine (room_n a _).mono ?_
      rintro e w' ⟨rfl, rfl⟩
      rw [HRR.out]
      go_wp2
      obtain ⟨W, hW⟩ : ∃ W, W = (w.alloc (.cells #[.int .u8 0, .slice none 0 0] 85)).drewN nq := ⟨_, rfl⟩
      rw [← hW]
      have k0 : W.cell? ⟨b, off + a, none⟩ = some (.int .u8 (x0 : Int)) := by rw [hW]; exact c0
      have k1 : W.cell? ⟨b, off + a + 1, none⟩ = some (.int .u8 (x1 : Int)) := by rw [hW]; exact c1
      have k2 : W.cell? ⟨b, off + a + 2, none⟩ = some (.int .u8 (x2 : Int)) := by rw [hW]; exact c2
      have k3 : W.cell? ⟨b, off + a + 3, none⟩ = some (.int .u8 (x3 : Int)) := by rw [hW]; exact c3
      have k6 : W.cell? ⟨b, off + a + 6, none⟩ = some (.int .u8 (x6 : Int)) := by rw [hW]; exact c6
      have hnew : W.heap[w.heap.size]? = some (.cells #[.int .u8 0, .slice none 0 0] 85 (0, 0)) := by rw [hW]; exact heap_alloc_new w _
      have kb0 := cell_of_block hnew 0
      have kb1 := cell_of_block hnew 1
      have kf : W.frozen? ⟨w.heap.size, 0, none⟩ = false := by simp [World.frozen?, hnew]
      have kf1 : W.frozen? ⟨w.heap.size, 1, none⟩ = false := by simp [World.frozen?, hnew]
      simp only [List.getElem?_toArray, List.getElem?_cons_zero, List.getElem?_cons_succ] at kb0 kb1
      have hBW : Below w.heap.size w W := by rw [hW]; exact HB.out.trans ((Below.drewN_refl _ nq).mono (by simp))
      have HBW := Lib.hid hBW
      have hbs : b < w.heap.size := HR.out.lt _ rfl (by omega)
      have hbne : b ≠ w.heap.size := by omega
      have HRW := Lib.hid (HR.out.kept hBW)
      have hou := Lib.hid (or_u32_join x0 x1 x2 x3 b0 b1 b2 b3)
      clear hW hBW hnew c0 c1 c2 c3 c4 c5 c6
      go_region
      go_wp2
      go_quiet (fail)
      rw [hou.out]
      go_wp2_with fail
      obtain ⟨W3, hW3⟩ : ∃ W3, W3 = (((W.setCell ⟨w.heap.size, 0, none⟩ (.int .u8 (x6 : Int))).setCell ⟨w.heap.size, 1, none⟩ (.slice (cutA (some ⟨b, off, none⟩) cap (a + 7)) (x4 * 256 + x5) (cap - (a + 7)))).drewN (1 + nq)) := ⟨_, rfl⟩
      rw [← hW3]
      have hB3 : Below w.heap.size w W3 := by
        rw [hW3]
        exact ((HBW.out.setCell (p := ⟨w.heap.size, 0, none⟩) (Nat.le_refl _) _).setCell (p := ⟨w.heap.size, 1, none⟩) (Nat.le_refl _) _).trans ((Below.drewN_refl _ (1 + nq)).mono (by have := HBW.out.size; simp; omega))
      have hk0 : W3.cell? ⟨w.heap.size, 0, none⟩ = some (.int .u8 (x6 : Int)) := by
        rw [hW3]
        show ((W.setCell _ _).setCell _ _).cell? _ = _
        rw [World.cell?_setCell_other _ _ _ _ (by simp)]
        exact World.cell?_setCell_same' _ _ _ (by rw [kb0]; rfl)
      have hk1 : W3.cell? ⟨w.heap.size, 1, none⟩ = some (.slice (cutA (some ⟨b, off, none⟩) cap (a + 7)) (x4 * 256 + x5) (cap - (a + 7))) := by
        rw [hW3]
        show ((W.setCell _ _).setCell _ _).cell? _ = _
        exact World.cell?_setCell_same' _ _ _ (by rw [World.cell?_setCell_other _ _ _ _ (by simp), kb1]; rfl)
      have hrc : Row8 W3 (cutA (some ⟨b, off, none⟩) cap (a + 7)) (x4 * 256 + x5) (cap - (a + 7)) (dataAt l a) := by
        have h1 := (HR.out.cut (a + 7) (a + 7 + (x4 * 256 + x5)) (by omega) (by omega))
        rw [show a + 7 + (x4 * 256 + x5) - (a + 7) = x4 * 256 + x5 by omega] at h1
        have h2 : dataAt l a = (l.drop (a + 7)).take (x4 * 256 + x5) := by unfold dataAt; rw [HS.out]
        rw [h2]
        exact h1.kept hB3
      have hlt3 : w.heap.size < W3.heap.size := World.block_lt_of_cell? W3 _ hk0
      have HRC := Lib.hid hrc
      have HK0 := Lib.hid hk0
      have HK1 := Lib.hid hk1
      have HFZ : Hid (W3.frozen? ⟨w.heap.size, 0, none⟩ = false ∧ W3.frozen? ⟨w.heap.size, 1, none⟩ = false) := by
        rw [hW3]
        show World.frozen? ((W.setCell _ _).setCell _ _) _ = _ ∧ World.frozen? ((W.setCell _ _).setCell _ _) _ = _
        rw [World.frozen?_setCell, World.frozen?_setCell, World.frozen?_setCell, World.frozen?_setCell]
        exact ⟨kf, kf1⟩
      have HB3 := Lib.hid hB3
      clear hW3 hB3 hk0 hk1 hrc k0 k1 k2 k3 k6 kb0 kb1 kf kf1
      by_cases hsum : four l a = crcN x6 (dataAt l a)
      · have hne : (((x0 * 16777216 + x1 * 65536 + x2 * 256 + x3 : Nat) : Int) != ((crcN x6 (dataAt l a) : Nat) : Int)) = false := by
          rw [HF.out] at hsum; simp [hsum]
        have h0 : ok = true := by
          rw [HDEF.out, HRR.out, HLEN.out, HX6.out, hsum]; simp; omega
        clear hsum
        have H0 := Lib.hid h0
        clear h0
        refine (checksum_n x6 b6 _ _ _ (dataAt l a) W3 HRC.out).mono ?_
        rintro e w4 ⟨rfl, hb4⟩
        have q0 := (hb4.cell (p := ⟨w.heap.size, 0, none⟩) hlt3).trans HK0.out
        have q1 := (hb4.cell (p := ⟨w.heap.size, 1, none⟩) hlt3).trans HK1.out
        have HB4 := Lib.hid (HB3.out.trans (hb4.mono HB3.out.size))
        have hfz : w4.frozen? ⟨w.heap.size, 0, none⟩ = false ∧ w4.frozen? ⟨w.heap.size, 1, none⟩ = false := by
          rw [hb4.frozen (p := ⟨w.heap.size, 0, none⟩) hlt3, hb4.frozen (p := ⟨w.heap.size, 1, none⟩) hlt3]; exact HFZ.out
        obtain ⟨hfz0, hfz1⟩ := hfz
        clear hb4
        go_wp2
        rw [HYES.out H0.out, H0.out]
        unfold partV
        rw [HX6.out, HS.out]
        exact bodyPost_ret (v := .tuple #[.agg #[.int .u8 (x6 : Int), .slice (cutA (some ⟨b, off, none⟩) cap (a + 7)) (x4 * 256 + x5) (cap - (a + 7))], .bool true]) (by simp [results, Try.results54, go_sem, q0, q1, World.cell?_setCell_same' _ _ _]) rfl ⟨rfl, (HB4.out.setCell (p := ⟨w.heap.size, 0, none⟩) (Nat.le_refl _) _).setCell (p := ⟨w.heap.size, 1, none⟩) (Nat.le_refl _) _⟩
      · have hne : (((x0 * 16777216 + x1 * 65536 + x2 * 256 + x3 : Nat) : Int) != ((crcN x6 (dataAt l a) : Nat) : Int)) = true := by
          rw [HF.out] at hsum; simp; omega
        have h0 : ok = false := by
          rw [HDEF.out, HRR.out, HLEN.out, HX6.out]; simp [hsum]
        clear hsum
        have H0 := Lib.hid h0
        clear h0
        refine (checksum_n x6 b6 _ _ _ (dataAt l a) W3 HRC.out).mono ?_
        rintro e w4 ⟨rfl, hb4⟩
        have q0 := (hb4.cell (p := ⟨w.heap.size, 0, none⟩) hlt3).trans HK0.out
        have q1 := (hb4.cell (p := ⟨w.heap.size, 1, none⟩) hlt3).trans HK1.out
        have HB4 := Lib.hid (HB3.out.trans (hb4.mono HB3.out.size))
        have hfz : w4.frozen? ⟨w.heap.size, 0, none⟩ = false ∧ w4.frozen? ⟨w.heap.size, 1, none⟩ = false := by
          rw [hb4.frozen (p := ⟨w.heap.size, 0, none⟩) hlt3, hb4.frozen (p := ⟨w.heap.size, 1, none⟩) hlt3]; exact HFZ.out
        obtain ⟨hfz0, hfz1⟩ := hfz
        clear hb4
        go_wp2
        rw [HNO.out H0.out, H0.out]
        exact bodyPost_ret (v := .tuple #[noPartV, .bool false]) (by simp [results, Try.results54, noPartV, go_sem, q0, q1]) rfl ⟨rfl, (HB4.out.setCell (p := ⟨w.heap.size, 0, none⟩) (Nat.le_refl _) _).setCell (p := ⟨w.heap.size, 1, none⟩) (Nat.le_refl _) _⟩
end Go.Proofs.Ytkmanpmaflpgoaa
