/-
  WHAT IS PROVED: what a table looks like as bytes: PutTable, at a table that may be.
-/
import Derived.Test.YtjjfmmimmfihgabGreatDoorRowG
namespace Go.Proofs.YtjjfmmimmfihgabGreatDoor
open Go.RowKit Go.Lib
set_option linter.unusedVariables false

theorem encC_len (x : ColM) (h : x.s.size ≤ 16) : (encC x).length ≤ 28 := by
  have h1 : (vb x.s.size).length ≤ 10 := vb_len64 (by omega)
  have h2 := strN_length x.s
  unfold encC
  simp; omega
theorem encI_len (x : IdxM) (h : x.s.size ≤ 16) (h2 : x.c ≤ 9223372036854775807) : (encI x).length ≤ 36 := by
  have h1 : (vb x.s.size).length ≤ 10 := vb_len64 (by omega)
  have h3 : (vb x.c.toNat).length ≤ 10 := vb_len64 (by omega)
  have h2 := strN_length x.s
  unfold encI
  simp; omega
theorem flat_le {α : Type} (f : α → List Nat) (m : Nat) (l : List α) (h : ∀ x ∈ l, (f x).length ≤ m) : (l.flatMap f).length ≤ l.length * m := by
  induction l with
  | nil => simp
  | cons x r ih =>
    have h1 := h x (List.mem_cons_self ..)
    have h2 := ih (fun y hy => h y (List.mem_cons_of_mem _ hy))
    simp only [List.flatMap_cons, List.length_append, List.length_cons]
    rw [Nat.add_mul]
    omega
set_option maxRecDepth 100000 in
set_option maxHeartbeats 4000000 in
theorem putListCol_any (base B P : Nat) (l : List Nat) (v : Value) (ao : Option Addr) (n cap : Nat) (vs : List ColM) (w : World) (h : Wr base B l v w) (hr : RowG ColM.cells 5 w ao n cap vs) (hlo : ∀ a, ao = some a → 0 < n → a.block < base)
    (hP : AtW P B w) (hne : P ≠ B) (hfit : ∀ x ∈ vs, x.s.size ≤ 16 ∧ x.k < 256) (hn : n ≤ 4096) (hroom : l.length ≤ 1073741824) :
    Calls Tryz.prog 36 #[.pointer (some ⟨B, 0, none⟩), .slice ao n cap, .func (.func 37) #[] #[.pointer (some ⟨P, 0, none⟩)]] w (Writes base B l (vb vs.length ++ vs.flatMap encC) w) := by
  have hlen := Lib.hid hr.len
  have hroom2 := hr.room
  have hmost := hr.most
  have HR := Lib.hid hr
  have H0 := Lib.hid h
  have HP0 := Lib.hid hP
  have hv10 : (vb n).length ≤ 10 := vb_len64 (by omega)
  have HFIT := Lib.hid hfit
  clear hr h hP hfit
  go_enter Tryz.func36, Tryz.ntmps36
  go_wp2_with fail
  refine (putU_any base B l v n (by omega) w H0.out (by omega)).mono ?_
  rintro e w1 ⟨rfl, ht, v1, h1⟩
  have HT1 := Lib.hid ht
  have H1 := Lib.hid h1
  have HP1 := Lib.hid (HP0.out.touch ht hne)
  clear ht h1 HP0
  have HL : Hid ((l ++ vb n).length = l.length + (vb n).length) := Lib.hid (by simp)
  go_wp2_with fail
  go_loopw [15] (fun i wr => ∃ k : Nat, k ≤ n ∧ i = .int .i64 k ∧ Hid (∃ v', Wr base B ((l ++ vb n) ++ (vs.take k).flatMap encC) v' wr) ∧ Hid (Touch base B w wr) ∧ Hid (AtW P B wr)) (fun i _ => n - (RowKit.intOf i).toNat)
  case atStart => exact ⟨0, by omega, rfl, Lib.hid ⟨v1, by simpa using H1.out⟩, HT1, HP1⟩
  case round =>
    obtain ⟨k, hk, rfl, HK, HT, HPk⟩ := hrel
    by_cases hlt : k < n
    · obtain ⟨x, hx⟩ : ∃ x, vs[k]? = some x := ⟨vs[k]'(by rw [hlen.out]; exact hlt), by simp [hlen.out, hlt]⟩
      obtain ⟨b, off, rfl, hcell⟩ := (HR.out.below HT.out.below hlo).lies col_ne (by omega)
      have hxin := HFIT.out x (List.mem_of_getElem? hx)
      have HE : Hid (((l ++ vb n) ++ (vs.take k).flatMap encC) ++ encC x = (l ++ vb n) ++ (vs.take (k + 1)).flatMap encC) := Lib.hid (by rw [List.take_add_one, hx]; simp)
      have HLT : Hid (((l ++ vb n) ++ (vs.take k).flatMap encC).length + 100 ≤ 1099511627776) := Lib.hid (by
        have h1 := flat_le encC 28 (vs.take k) (fun y hy => encC_len y (HFIT.out y (List.mem_of_mem_take hy)).1)
        have h2 : (vs.take k).length ≤ k := by simp; omega
        have h3 := HL.out
        rw [List.length_append, h3]
        have h4 : (vs.take k).length * 28 ≤ 4096 * 28 := Nat.mul_le_mul_right _ (by omega)
        omega)
      have hc := hcell k x hx
      obtain ⟨v2, h2⟩ := HK.out
      have H2 := Lib.hid h2
      obtain ⟨s, kk, p, q, r⟩ := x
      have c0 : wr.cell? ⟨b, off + k * 5, none⟩ = some (.string s) := hc 0 _ rfl
      have c1 : wr.cell? ⟨b, off + k * 5 + 1, none⟩ = some (.int .u8 (kk : Int)) := hc 1 _ rfl
      have c2 : wr.cell? ⟨b, off + k * 5 + 2, none⟩ = some (.bool p) := hc 2 _ rfl
      have c3 : wr.cell? ⟨b, off + k * 5 + 3, none⟩ = some (.bool q) := hc 3 _ rfl
      have c4 : wr.cell? ⟨b, off + k * 5 + 4, none⟩ = some (.bool r) := hc 4 _ rfl
      clear h2 HK hx hcell hc
      go_wp2_with fail
      refine (putCol_any base B P _ v2 s kk p q r hxin.1 hxin.2 _ (H2.out.kept (below_alloc _ _)) (HPk.out.kept (below_alloc _ _)) hne HLT.out).mono ?_
      rintro e w3 ⟨rfl, ht, v3, h3⟩
      rw [HE.out] at h3
      have H3 : Hid (∃ v', Wr base B ((l ++ vb n) ++ (vs.take (k + 1)).flatMap encC) v' w3) := Lib.hid ⟨v3, h3⟩
      have HT3 := Lib.hid ((HT.out.kept (below_alloc _ _) H2.out.size).trans ht)
      have HP3 := Lib.hid ((HPk.out.kept (below_alloc _ _)).touch ht hne)
      clear ht h3 c0 c1 c2 c3 c4
      go_wp2
      go_roundw
      case rel => exact ⟨k + 1, by omega, by go_num, H3, HT3, HP3⟩
      case measure => simp [RowKit.intOf]; omega
    · obtain rfl : k = n := by omega
      obtain ⟨v2, h2⟩ := HK.out
      rw [List.take_of_length_le (by rw [hlen.out]; omega), List.append_assoc, show vb k = vb vs.length by rw [hlen.out]] at h2
      have H2 := Lib.hid h2
      clear h2 HK
      go_wp2_with fail
      exact bodyPost_ret (v := .tuple #[]) (by simp [results, go_sem]) rfl ⟨rfl, HT.out, _, H2.out⟩
set_option maxRecDepth 100000 in
set_option maxHeartbeats 4000000 in
theorem putListIdx_any (base B P : Nat) (l : List Nat) (v : Value) (ao : Option Addr) (n cap : Nat) (vs : List IdxM) (w : World) (h : Wr base B l v w) (hr : RowG IdxM.cells 2 w ao n cap vs) (hlo : ∀ a, ao = some a → 0 < n → a.block < base)
    (hP : AtW P B w) (hne : P ≠ B) (hfit : ∀ x ∈ vs, x.s.size ≤ 16 ∧ 0 ≤ x.c ∧ x.c ≤ 9223372036854775807) (hn : n ≤ 4096) (hroom : l.length ≤ 1073741824) :
    Calls Tryz.prog 39 #[.pointer (some ⟨B, 0, none⟩), .slice ao n cap, .func (.func 40) #[] #[.pointer (some ⟨P, 0, none⟩)]] w (Writes base B l (vb vs.length ++ vs.flatMap encI) w) := by
  have hlen := Lib.hid hr.len
  have hroom2 := hr.room
  have hmost := hr.most
  have HR := Lib.hid hr
  have H0 := Lib.hid h
  have HP0 := Lib.hid hP
  have hv10 : (vb n).length ≤ 10 := vb_len64 (by omega)
  have HFIT := Lib.hid hfit
  clear hr h hP hfit
  go_enter Tryz.func39, Tryz.ntmps39
  go_wp2_with fail
  refine (putU_any base B l v n (by omega) w H0.out (by omega)).mono ?_
  rintro e w1 ⟨rfl, ht, v1, h1⟩
  have HT1 := Lib.hid ht
  have H1 := Lib.hid h1
  have HP1 := Lib.hid (HP0.out.touch ht hne)
  clear ht h1 HP0
  have HL : Hid ((l ++ vb n).length = l.length + (vb n).length) := Lib.hid (by simp)
  go_wp2_with fail
  go_loopw [15] (fun i wr => ∃ k : Nat, k ≤ n ∧ i = .int .i64 k ∧ Hid (∃ v', Wr base B ((l ++ vb n) ++ (vs.take k).flatMap encI) v' wr) ∧ Hid (Touch base B w wr) ∧ Hid (AtW P B wr)) (fun i _ => n - (RowKit.intOf i).toNat)
  case atStart => exact ⟨0, by omega, rfl, Lib.hid ⟨v1, by simpa using H1.out⟩, HT1, HP1⟩
  case round =>
    obtain ⟨k, hk, rfl, HK, HT, HPk⟩ := hrel
    by_cases hlt : k < n
    · obtain ⟨x, hx⟩ : ∃ x, vs[k]? = some x := ⟨vs[k]'(by rw [hlen.out]; exact hlt), by simp [hlen.out, hlt]⟩
      obtain ⟨b, off, rfl, hcell⟩ := (HR.out.below HT.out.below hlo).lies idx_ne (by omega)
      have hxin := HFIT.out x (List.mem_of_getElem? hx)
      have HE : Hid (((l ++ vb n) ++ (vs.take k).flatMap encI) ++ encI x = (l ++ vb n) ++ (vs.take (k + 1)).flatMap encI) := Lib.hid (by rw [List.take_add_one, hx]; simp)
      have HLT : Hid (((l ++ vb n) ++ (vs.take k).flatMap encI).length + 100 ≤ 1099511627776) := Lib.hid (by
        have h1 := flat_le encI 36 (vs.take k) (fun y hy => encI_len y (HFIT.out y (List.mem_of_mem_take hy)).1 (HFIT.out y (List.mem_of_mem_take hy)).2.2)
        have h2 : (vs.take k).length ≤ k := by simp; omega
        have h3 := HL.out
        rw [List.length_append, h3]
        have h4 : (vs.take k).length * 36 ≤ 4096 * 36 := Nat.mul_le_mul_right _ (by omega)
        omega)
      have hc := hcell k x hx
      obtain ⟨v2, h2⟩ := HK.out
      have H2 := Lib.hid h2
      obtain ⟨s, c⟩ := x
      have c0 : wr.cell? ⟨b, off + k * 2, none⟩ = some (.string s) := hc 0 _ rfl
      have c1 : wr.cell? ⟨b, off + k * 2 + 1, none⟩ = some (.int .i64 c) := hc 1 _ rfl
      simp only at hxin
      obtain ⟨c, rfl⟩ := Int.eq_ofNat_of_zero_le hxin.2.1
      clear h2 HK hx hcell hc
      go_wp2_with fail
      refine (putIdx_any base B P _ v2 s c hxin.1 (by have := hxin.2.2; omega) _ (H2.out.kept (below_alloc _ _)) (HPk.out.kept (below_alloc _ _)) hne HLT.out).mono ?_
      rintro e w3 ⟨rfl, ht, v3, h3⟩
      rw [HE.out] at h3
      have H3 : Hid (∃ v', Wr base B ((l ++ vb n) ++ (vs.take (k + 1)).flatMap encI) v' w3) := Lib.hid ⟨v3, h3⟩
      have HT3 := Lib.hid ((HT.out.kept (below_alloc _ _) H2.out.size).trans ht)
      have HP3 := Lib.hid ((HPk.out.kept (below_alloc _ _)).touch ht hne)
      clear ht h3 c0 c1
      go_wp2
      go_roundw
      case rel => exact ⟨k + 1, by omega, by go_num, H3, HT3, HP3⟩
      case measure => simp [RowKit.intOf]; omega
    · obtain rfl : k = n := by omega
      obtain ⟨v2, h2⟩ := HK.out
      rw [List.take_of_length_le (by rw [hlen.out]; omega), List.append_assoc, show vb k = vb vs.length by rw [hlen.out]] at h2
      have H2 := Lib.hid h2
      clear h2 HK
      go_wp2_with fail
      exact bodyPost_ret (v := .tuple #[]) (by simp [results, go_sem]) rfl ⟨rfl, HT.out, _, H2.out⟩
/-- may a table be so? -/
structure FitsT (nm : ByteArray) (cs : List ColM) (xs : List IdxM) : Prop where
  name : nm.size ≤ 16
  cols : cs.length ≤ 16
  idxs : xs.length ≤ 16
  col : cs.all ColM.fits = true
  idx : xs.all (IdxM.fits cs.length) = true
theorem FitsT.colS {nm : ByteArray} {cs : List ColM} {xs : List IdxM} (h : FitsT nm cs xs) : ∀ x ∈ cs, x.s.size ≤ 16 ∧ x.k < 256 := by
  intro x hx
  have := List.all_eq_true.1 h.col x hx
  simp only [ColM.fits, Bool.and_eq_true, Bool.or_eq_true, decide_eq_true_eq, beq_iff_eq] at this
  omega
theorem FitsT.idxS {nm : ByteArray} {cs : List ColM} {xs : List IdxM} (h : FitsT nm cs xs) : ∀ x ∈ xs, x.s.size ≤ 16 ∧ 0 ≤ x.c ∧ x.c ≤ 9223372036854775807 := by
  intro x hx
  have := List.all_eq_true.1 h.idx x hx
  have h2 := h.cols
  simp only [IdxM.fits, Bool.and_eq_true, decide_eq_true_eq] at this
  omega
set_option maxRecDepth 100000 in
set_option maxHeartbeats 8000000 in
theorem checkTable_ok (nm : ByteArray) (co : Option Addr) (cn cc : Nat) (cs : List ColM) (xo : Option Addr) (xn xc : Nat) (xs : List IdxM) (w : World) (hc : RowG ColM.cells 5 w co cn cc cs) (hx : RowG IdxM.cells 2 w xo xn xc xs) (hf : FitsT nm cs xs) :
    Calls Tryz.prog 34 #[.agg #[.string nm, .slice co cn cc, .slice xo xn xc]] w fun e w' => e = .returned (.int .i64 0) ∧ Below w.heap.size w w' := by
  have hcl := hc.len
  have hxl := hx.len
  have hcr := hc.room
  have hxr := hx.room
  have hcm := hc.most
  have hxm := hx.most
  have h16 := hf.cols
  have h17 := hf.idxs
  have hnm := hf.name
  have g1 : decide ((16 : Int) < (cn : Int)) = false := by rw [decide_eq_false_iff_not]; omega
  have g2 : decide ((16 : Int) < (xn : Int)) = false := by rw [decide_eq_false_iff_not]; omega
  have HC := Lib.hid hc
  have HX := Lib.hid hx
  have HF := Lib.hid hf
  have hcn : cs.length = cn := hcl
  obtain ⟨w0, hW⟩ : ∃ w0, w0 = w.alloc (.cells #[.string nm, .slice co cn cc, .slice xo xn xc] 45) := ⟨_, rfl⟩
  obtain ⟨T, hT⟩ : ∃ T, T = w.heap.size := ⟨_, rfl⟩
  have HT0 : Hid (w0.heap[T]? = some (.cells #[.string nm, .slice co cn cc, .slice xo xn xc] 45 (0, 0))) := Lib.hid (by rw [hW, hT]; exact heap_alloc_new w _)
  have HB0 : Hid (Below w.heap.size w w0) := Lib.hid (by rw [hW]; exact below_alloc w _)
  clear hc hx hf hcl hxl h16 h17
  go_enter Tryz.func34, Tryz.ntmps34
  go_wp2_with fail
  rw [← hW, ← hT]
  clear hW hT
  refine (nameFits_any nm (by omega) w0).mono ?_
  rw [show decide (nm.size ≤ 16) = true by simpa using hnm]
  rintro e w1 ⟨rfl, hb⟩
  have HB1 := Lib.hid (below_next HB0.out hb)
  have HT1 : Hid (w1.heap[T]? = some (.cells #[.string nm, .slice co cn cc, .slice xo xn xc] 45 (0, 0))) := Lib.hid ((hb.block _ (lt_of_block HT0.out)).trans HT0.out)
  clear hb HT0
  have t1 : w1.cell? ⟨T, 1, none⟩ = some (.slice co cn cc) := cell_of_block HT1.out 1
  go_wp2_with fail
  refine (containsCol_any co cn cc cs w1 (HC.out.below HB1.out (HC.out.lt col_ne)) (fun x hx => by have := (HF.out.colS x hx).1; omega)).mono ?_
  rw [HF.out.col]
  rintro e w2 ⟨rfl, hb⟩
  have HB2 := Lib.hid (below_next HB1.out hb)
  have HT2 : Hid (w2.heap[T]? = some (.cells #[.string nm, .slice co cn cc, .slice xo xn xc] 45 (0, 0))) := Lib.hid ((hb.block _ (lt_of_block HT1.out)).trans HT1.out)
  clear hb HT1 t1
  have t2 : w2.cell? ⟨T, 2, none⟩ = some (.slice xo xn xc) := cell_of_block HT2.out 2
  go_wp2_with fail
  refine (containsIdx_any xo xn xc xs T co cn cc w2 (HX.out.below HB2.out (HX.out.lt idx_ne)) (fun x hx => by have := (HF.out.idxS x hx).1; omega) (cell_of_block HT2.out 1)).mono ?_
  rw [show xs.all (IdxM.fits cn) = true by rw [← hcn]; exact HF.out.idx]
  rintro e w3 ⟨rfl, hb⟩
  have HB3 := Lib.hid (below_next HB2.out hb)
  clear hb
  go_wp2
  go_ret
  exact ⟨rfl, HB3.out⟩
def encT (nm : ByteArray) (cs : List ColM) (xs : List IdxM) : List Nat := (vb nm.size ++ strN nm) ++ (vb cs.length ++ cs.flatMap encC) ++ (vb xs.length ++ xs.flatMap encI)
set_option maxRecDepth 100000 in
set_option maxHeartbeats 8000000 in
theorem putTable_ok (nm : ByteArray) (co : Option Addr) (cn cc : Nat) (cs : List ColM) (xo : Option Addr) (xn xc : Nat) (xs : List IdxM) (w : World) (hc : RowG ColM.cells 5 w co cn cc cs) (hx : RowG IdxM.cells 2 w xo xn xc xs) (hf : FitsT nm cs xs) :
    Calls Tryz.prog 12 #[.agg #[.string nm, .slice co cn cc, .slice xo xn xc]] w (Good8 w (encT nm cs xs)) := by
  have hcl := hc.len
  have hxl := hx.len
  have h16 := hf.cols
  have h17 := hf.idxs
  have hnm := hf.name
  have hv : (vb nm.size).length ≤ 10 := vb_len64 (by omega)
  have hsl := strN_length nm
  have hst : (vb nm.size ++ strN nm).length = (vb nm.size).length + (strN nm).length := by simp
  have HLC : Hid ((vb cs.length ++ cs.flatMap encC).length ≤ 1000) := Lib.hid (by
    have h1 := flat_le encC 28 cs (fun x hx => encC_len x (hf.colS x hx).1)
    have h2 : (vb cs.length).length ≤ 10 := vb_len64 (by omega)
    have h4 : cs.length * 28 ≤ 16 * 28 := Nat.mul_le_mul_right _ (by omega)
    simp only [List.length_append]
    omega)
  have HC := Lib.hid hc
  have HX := Lib.hid hx
  have HF := Lib.hid hf
  have hcn : cn ≤ 4096 := by omega
  have hxn : xn ≤ 4096 := by omega
  obtain ⟨w0, hW⟩ : ∃ w0, w0 = w.alloc (.cells #[.string nm, .slice co cn cc, .slice xo xn xc] 45) := ⟨_, rfl⟩
  obtain ⟨T, hT⟩ : ∃ T, T = w.heap.size := ⟨_, rfl⟩
  have HT0 : Hid (w0.heap[T]? = some (.cells #[.string nm, .slice co cn cc, .slice xo xn xc] 45 (0, 0))) := Lib.hid (by rw [hW, hT]; exact heap_alloc_new w _)
  have HB0 : Hid (Below w.heap.size w w0) := Lib.hid (by rw [hW]; exact below_alloc w _)
  clear hc hx hf hcl hxl h16 h17
  go_enter Tryz.func12, Tryz.ntmps12
  go_wp2_with fail
  rw [← hW, ← hT]
  clear hW hT
  refine (checkTable_ok nm co cn cc cs xo xn xc xs w0 (HC.out.below HB0.out (HC.out.lt col_ne)) (HX.out.below HB0.out (HX.out.lt idx_ne)) HF.out).mono ?_
  rintro e w1 ⟨rfl, hb⟩
  have HB1 := Lib.hid (below_next HB0.out hb)
  have HT1 : Hid (w1.heap[T]? = some (.cells #[.string nm, .slice co cn cc, .slice xo xn xc] 45 (0, 0))) := Lib.hid ((hb.block _ (lt_of_block HT0.out)).trans HT0.out)
  clear hb HT0 HB0
  obtain ⟨B, hB⟩ : ∃ b, b = w1.heap.size := ⟨_, rfl⟩
  obtain ⟨P, hP⟩ : ∃ b, b = w1.heap.size + 1 := ⟨_, rfl⟩
  obtain ⟨w3, hw3⟩ : ∃ w2, w2 = (w1.alloc (.cells #[.slice none 0 0] 70)).alloc (.cells #[.pointer (some ⟨w1.heap.size, 0, none⟩)] 68) := ⟨_, rfl⟩
  have hne : P ≠ B := by omega
  have H3 : Hid (Wr w.heap.size B [] (.slice none 0 0) w3) := Lib.hid (by
    rw [hw3, hB]
    have h2 : Wr w.heap.size w1.heap.size [] (.slice none 0 0) (w1.alloc (.cells #[.slice none 0 0] 70)) := ⟨heap_alloc_new w1 _, World.ownsRow_nil _ _ _ _, HB1.out.size, by have := HB1.out.size; simp; omega, fun _ h => by cases h⟩
    exact h2.kept (below_alloc _ _))
  have HP3 : Hid (AtW P B w3) := Lib.hid (by
    rw [hw3, hP, hB]
    have := heap_alloc_new (w1.alloc (.cells #[.slice none 0 0] 70)) (.cells #[.pointer (some ⟨w1.heap.size, 0, none⟩)] 68)
    rw [show (w1.alloc (.cells #[.slice none 0 0] 70)).heap.size = w1.heap.size + 1 by simp] at this
    exact this)
  have HB13 : Hid (Below w1.heap.size w1 w3) := Lib.hid (by rw [hw3]; exact (below_alloc w1 _).alloc (by simp) _)
  have HT3 : Hid (w3.heap[T]? = some (.cells #[.string nm, .slice co cn cc, .slice xo xn xc] 45 (0, 0))) := Lib.hid ((HB13.out.block _ (lt_of_block HT1.out)).trans HT1.out)
  have HB3 := Lib.hid (below_next HB1.out HB13.out)
  have hTB : T ≠ B := by have := lt_of_block HT1.out; omega
  have t0 : ((w1.alloc (.cells #[.slice none 0 0] 70)).alloc (.cells #[.pointer (some ⟨w1.heap.size, 0, none⟩)] 68)).cell? ⟨T, 0, none⟩ = some (.string nm) := keep_alloc (keep_alloc (cell_of_block HT1.out 0))
  go_wp2_with fail
  rw [← hw3, ← hP, ← hB]
  clear hw3 hP hB t0 HB13 HT1 HB1
  refine (text_any w.heap.size B [] (.slice none 0 0) nm (by omega) w3 H3.out (by rw [hst]; simp; omega)).mono ?_
  rintro e w4 ⟨rfl, ht, v4, h4⟩
  rw [List.nil_append] at h4
  have H4 := Lib.hid h4
  have HB4 := Lib.hid (HB3.out.trans ht.below)
  have HT4 : Hid (w4.heap[T]? = some (.cells #[.string nm, .slice co cn cc, .slice xo xn xc] 45 (0, 0))) := Lib.hid (ht.rest _ _ HT3.out hTB (notBytes_of (by decide)))
  have HP4 := Lib.hid (HP3.out.touch ht hne)
  clear ht h4 H3 HB3 HT3 HP3
  have p0 : w4.cell? ⟨P, 0, none⟩ = some (.pointer (some ⟨B, 0, none⟩)) := cell_of_block HP4.out 0
  have t1 : w4.cell? ⟨T, 1, none⟩ = some (.slice co cn cc) := cell_of_block HT4.out 1
  go_wp2_with fail
  refine (putListCol_any w.heap.size B P _ v4 co cn cc cs w4 H4.out (HC.out.below HB4.out (HC.out.lt col_ne)) (HC.out.lt col_ne) HP4.out hne HF.out.colS hcn (by omega)).mono ?_
  rintro e w5 ⟨rfl, ht, v5, h5⟩
  have H5 := Lib.hid h5
  have HB5 := Lib.hid (HB4.out.trans ht.below)
  have HT5 : Hid (w5.heap[T]? = some (.cells #[.string nm, .slice co cn cc, .slice xo xn xc] 45 (0, 0))) := Lib.hid (ht.rest _ _ HT4.out hTB (notBytes_of (by decide)))
  have HP5 := Lib.hid (HP4.out.touch ht hne)
  clear ht h5 H4 HB4 HT4 HP4 p0 t1
  have p0 : w5.cell? ⟨P, 0, none⟩ = some (.pointer (some ⟨B, 0, none⟩)) := cell_of_block HP5.out 0
  have t2 : w5.cell? ⟨T, 2, none⟩ = some (.slice xo xn xc) := cell_of_block HT5.out 2
  go_wp2_with fail
  refine (putListIdx_any w.heap.size B P _ v5 xo xn xc xs w5 H5.out (HX.out.below HB5.out (HX.out.lt idx_ne)) (HX.out.lt idx_ne) HP5.out hne HF.out.idxS hxn (by have := HLC.out; rw [List.length_append]; omega)).mono ?_
  rintro e w6 ⟨rfl, ht, v6, h6⟩
  have HB6 := Lib.hid (HB5.out.trans ht.below)
  have HP6 := Lib.hid (HP5.out.touch ht hne)
  obtain ⟨ao6, c6, rfl, hr6, hn6⟩ := Row8.of_owns h6.own h6.byte
  have s6 : w6.cell? ⟨B, 0, none⟩ = some (.slice ao6 (encT nm cs xs).length c6) := cell_of_block h6.at_ 0
  have H6 := Lib.hid (And.intro hr6 hn6)
  have p6 : w6.cell? ⟨P, 0, none⟩ = some (.pointer (some ⟨B, 0, none⟩)) := cell_of_block HP6.out 0
  clear ht h6 hr6 hn6 H5 HB5 HT5 HP5 p0 t2
  go_wp2
  go_ret2
  exact ⟨_, _, _, rfl, H6.out.1, H6.out.2, HB6.out⟩
end Go.Proofs.YtjjfmmimmfihgabGreatDoor
