/-
  WHAT IS PROVED: a writer writes bytes as they are, a text, a value, a list of values; values as bytes.
-/
import Derived.Test.YtjjfmmimmfihgabGreatDoorRowB
namespace Go.Proofs.YtjjfmmimmfihgabGreatDoor
open Go.RowKit Go.Lib
set_option linter.unusedVariables false

set_option maxRecDepth 100000 in
set_option maxHeartbeats 2000000 in
theorem add_any (base B : Nat) (l m : List Nat) (v : Value) (ao : Option Addr) (n cap : Nat) (w : World) (h : Wr base B l v w) (hr : Row8 w ao n cap m) (hroom : l.length + n ≤ 1099511627776) :
    Calls Tryz.prog 31 #[.pointer (some ⟨B, 0, none⟩), .slice ao n cap] w (Writes base B l m w) := by
  have H0 := Lib.hid h
  have HR := Lib.hid hr
  have hl := Lib.hid hr.len
  clear h hr
  have s0 : w.cell? ⟨B, 0, none⟩ = some v := cell_of_block H0.out.at_ 0
  have z0 := H0.out.lt
  go_enter Tryz.func31, Tryz.ntmps31
  go_wp2_with (at_builtin; refine wpList_append_row rfl (.tmp 8) (.tmp 9) rfl base v l.length l rfl H0.out.own ao n cap m rfl HR.out hroom H0.out.size ?_)
  intro v' w2 hown hg
  obtain ⟨ao2, n2, c2, rfl⟩ := own_slice hown
  have HW := Lib.hid (H0.out.next hown hg hl.out HR.out.byte)
  have HB := Lib.hid (HW.out.2.2 w (Touch.refl _ _ _))
  have s2 : w2.cell? ⟨B, 0, none⟩ = some v := cell_of_block HW.out.2.1 0
  have f2 : w2.frozen? ⟨B, 0, none⟩ = false := free_of_block HW.out.2.1 0
  have z2 : B < w2.heap.size := lt_of_block HW.out.2.1
  clear hown hg s0 z0
  go_wp2
  exact bodyPost_ret (v := .tuple #[]) (by simp [results, go_sem]) rfl ⟨rfl, HB.out, _, HW.out.1⟩
theorem text_any (base B : Nat) (l : List Nat) (v : Value) (s : ByteArray) (hs : s.size ≤ 4294967296) (w : World) (h : Wr base B l v w) (hroom : l.length + (vb s.size ++ strN s).length ≤ 1099511627776) :
    Calls Tryz.prog 35 #[.pointer (some ⟨B, 0, none⟩), .string s] w (Writes base B l (vb s.size ++ strN s) w) := by
  have H0 := Lib.hid h
  clear h
  go_enter Tryz.func35, Tryz.ntmps35
  go_wp2_with fail
  refine (putS_any base B l v s hs w H0.out hroom).mono ?_
  rintro e w1 ⟨rfl, hb, v', h1⟩
  have H1 := Lib.hid h1
  have HB := Lib.hid hb
  clear h1 hb
  go_wp2
  exact bodyPost_ret (v := .tuple #[]) (by simp [results, go_sem]) rfl ⟨rfl, HB.out, _, H1.out⟩
/-- a value's bytes -/
def encV (x : Val) : List Nat := x.k :: (if x.k = 1 then vb (foldN x.i) else if x.k = 2 then vb x.s.size ++ strN x.s else [])
theorem strN_length (s : ByteArray) : (strN s).length = s.size := by simp [strN]
theorem encV_length (x : Val) (h : x.In) (hs : x.s.size ≤ 512) : (encV x).length ≤ 523 := by
  have h1 := vb_len64 (fold_lt x.i ⟨h.lo, h.hi⟩)
  have h2 : (vb x.s.size).length ≤ 10 := vb_len64 (by omega)
  unfold encV
  split
  · simp; omega
  · split
    · have := strN_length x.s
      simp; omega
    · simp
theorem encV_byte (x : Val) (h : x.In) : ∀ c ∈ encV x, c < 256 := by
  intro c hc
  unfold encV at hc
  rcases List.mem_cons.1 hc with rfl | hc
  · exact h.k
  · split at hc
    · exact vb_byte _ c hc
    · split at hc
      · rcases List.mem_append.1 hc with hc | hc
        · exact vb_byte _ c hc
        · exact strN_byte _ c hc
      · cases hc
theorem notBytes_of {cs : Array Value} {t : TypeId} {fr : Nat × Nat} (h : t ≠ 5) : notBytes (.cells cs t fr) := fun cs' fr' e => by
  injection e with _ e2 _
  exact h e2
set_option maxRecDepth 100000 in
set_option maxHeartbeats 4000000 in
theorem writerValue_any (base B : Nat) (l : List Nat) (v : Value) (k : Nat) (i : Int) (s : ByteArray) (hk : k < 256) (hi : -9223372036854775808 ≤ i ∧ i ≤ 9223372036854775807) (hs : s.size ≤ 512) (w : World) (h : Wr base B l v w) (hroom : l.length + 600 ≤ 1099511627776) :
    Calls Tryz.prog 27 #[.pointer (some ⟨B, 0, none⟩), .agg #[.int .u8 (k : Int), .int .i64 i, .string s]] w (Writes base B l (encV ⟨k, i, s⟩) w) := by
  have hlen5 := vb_len64 (fold_lt i hi)
  have hlen6 : (vb s.size).length ≤ 10 := vb_len64 (by omega)
  have hlen7 := strN_length s
  have hll : (l ++ [k]).length = l.length + 1 := by simp
  have hst : (vb s.size ++ strN s).length = (vb s.size).length + (strN s).length := by simp
  obtain ⟨w0, hW⟩ : ∃ w0, w0 = w.alloc (.cells #[.int .u8 (k : Int), .int .i64 i, .string s] 25) := ⟨_, rfl⟩
  obtain ⟨b0, hb0⟩ : ∃ b0, b0 = w.heap.size := ⟨_, rfl⟩
  have HX0 : Hid (w0.heap[b0]? = some (.cells #[.int .u8 (k : Int), .int .i64 i, .string s] 25 (0, 0))) := Lib.hid (by rw [hW, hb0]; exact heap_alloc_new w _)
  have H0 : Hid (Wr base B l v w0) := Lib.hid (by rw [hW]; exact h.kept (below_alloc w _))
  have HT0 : Hid (Touch base B w w0) := Lib.hid (by rw [hW]; exact Touch.of (below_alloc w _) h.size)
  have hne : b0 ≠ B := by have := h.lt; omega
  have HRow := Lib.hid (row_new w0 [k] 1 (b0 + 1) (0, 0) (by rw [hW, hb0]; simp) rfl (by intro x hx; simp at hx; omega) (by omega))
  clear h
  go_enter Tryz.func27, Tryz.ntmps27
  go_wp2_with fail
  rw [← hW, ← hb0]
  clear hW hb0
  refine (add_any base B l [k] v _ 1 1 _ (H0.out.kept (below_alloc _ _)) HRow.out (by omega)).mono ?_
  rintro e w1 ⟨rfl, ht, v1, h1⟩
  have HT1 := Lib.hid ((HT0.out.kept (below_alloc _ _) H0.out.size).trans ht)
  have H1 := Lib.hid h1
  have HX1 := Lib.hid (ht.rest _ _ (((below_alloc w0 (.cells #[.int .u8 (k : Int)] 5)).block _ (lt_of_block HX0.out)).trans HX0.out) hne (notBytes_of (by decide)))
  clear ht h1 H0 HX0 HT0 HRow
  have c0 : w1.cell? ⟨b0, 0, none⟩ = some (.int .u8 (k : Int)) := cell_of_block HX1.out 0
  have c1 : w1.cell? ⟨b0, 1, none⟩ = some (.int .i64 i) := cell_of_block HX1.out 1
  have c2 : w1.cell? ⟨b0, 2, none⟩ = some (.string s) := cell_of_block HX1.out 2
  by_cases h1 : k = 1
  · have k1 : ((k : Int) == 1) = true := by subst h1; rfl
    have HE : Hid ((l ++ [k]) ++ vb (foldN i) = l ++ encV ⟨k, i, s⟩) := Lib.hid (by unfold encV; rw [if_pos h1]; simp)
    clear h1
    go_wp2_with fail
    refine (putI_any base B (l ++ [k]) v1 i hi w1 H1.out (by omega)).mono ?_
    rintro e w2 ⟨rfl, ht, v2, h2⟩
    have HT2 := Lib.hid (HT1.out.trans ht)
    rw [HE.out] at h2
    have H2 := Lib.hid h2
    clear ht h2
    go_wp2
    exact bodyPost_ret (v := .tuple #[]) (by simp [results, go_sem]) rfl ⟨rfl, HT2.out, _, H2.out⟩
  · have k1 : ((k : Int) == 1) = false := by rw [beq_eq_false_iff_ne]; omega
    by_cases h2 : k = 2
    · have k2 : ((k : Int) == 2) = true := by subst h2; rfl
      have HE : Hid ((l ++ [k]) ++ (vb s.size ++ strN s) = l ++ encV ⟨k, i, s⟩) := Lib.hid (by unfold encV; rw [if_neg h1, if_pos h2]; simp)
      clear h1 h2
      go_wp2_with fail
      refine (text_any base B (l ++ [k]) v1 s (by omega) w1 H1.out (by omega)).mono ?_
      rintro e w2 ⟨rfl, ht, v2, h2⟩
      have HT2 := Lib.hid (HT1.out.trans ht)
      rw [HE.out] at h2
      have H2 := Lib.hid h2
      clear ht h2
      go_wp2
      exact bodyPost_ret (v := .tuple #[]) (by simp [results, go_sem]) rfl ⟨rfl, HT2.out, _, H2.out⟩
    · have k2 : ((k : Int) == 2) = false := by rw [beq_eq_false_iff_ne]; omega
      have HE : Hid (l ++ [k] = l ++ encV ⟨k, i, s⟩) := Lib.hid (by unfold encV; rw [if_neg h1, if_neg h2])
      clear h1 h2
      have h2 := H1.out
      rw [HE.out] at h2
      have H2 := Lib.hid h2
      clear h2
      go_wp2
      exact bodyPost_ret (v := .tuple #[]) (by simp [results, go_sem]) rfl ⟨rfl, HT1.out, _, H2.out⟩
/-- a list's bytes -/
def encL (vs : List Val) : List Nat := vb vs.length ++ vs.flatMap encV
theorem flat_len (vs : List Val) (h : ∀ x ∈ vs, x.In ∧ x.s.size ≤ 512) : (vs.flatMap encV).length ≤ vs.length * 523 := by
  induction vs with
  | nil => simp
  | cons x r ih =>
    have h1 := encV_length x (h x (List.mem_cons_self ..)).1 (h x (List.mem_cons_self ..)).2
    have h2 := ih (fun y hy => h y (List.mem_cons_of_mem _ hy))
    simp only [List.flatMap_cons, List.length_append, List.length_cons]
    omega
set_option maxRecDepth 100000 in
set_option maxHeartbeats 4000000 in
theorem putListV_any (base B : Nat) (l : List Nat) (v : Value) (ao : Option Addr) (n cap : Nat) (vs : List Val) (w : World) (h : Wr base B l v w) (hr : RowV w ao n cap vs) (hlo : ∀ a, ao = some a → 0 < n → a.block < base)
    (hfit : ∀ x ∈ vs, x.s.size ≤ 512) (hn : n ≤ 4096) (hroom : l.length ≤ 1073741824) :
    Calls Tryz.prog 26 #[.pointer (some ⟨B, 0, none⟩), .slice ao n cap, .func (.func 27) #[.pointer (some ⟨B, 0, none⟩)] #[]] w (Writes base B l (encL vs) w) := by
  have hlen := Lib.hid hr.len
  have hroom2 := hr.room
  have hmost := hr.most
  have HR := Lib.hid hr
  have H0 := Lib.hid h
  have hv10 : (vb n).length ≤ 10 := vb_len64 (by omega)
  have HFIT := Lib.hid (fun x (hx : x ∈ vs) => And.intro (hr.each x hx) (hfit x hx))
  clear hr h
  go_enter Tryz.func26, Tryz.ntmps26
  go_wp2_with fail
  refine (putU_any base B l v n (by omega) w H0.out (by omega)).mono ?_
  rintro e w1 ⟨rfl, ht, v1, h1⟩
  have HT1 := Lib.hid ht
  have H1 := Lib.hid h1
  clear ht h1
  have HL : Hid ((l ++ vb n).length = l.length + (vb n).length) := Lib.hid (by simp)
  go_wp2_with fail
  go_loopw [15] (fun i wr => ∃ k : Nat, k ≤ n ∧ i = .int .i64 k ∧ Hid (∃ v', Wr base B ((l ++ vb n) ++ (vs.take k).flatMap encV) v' wr) ∧ Hid (Touch base B w wr)) (fun i _ => n - (RowKit.intOf i).toNat)
  case atStart => exact ⟨0, by omega, rfl, Lib.hid ⟨v1, by simpa using H1.out⟩, HT1⟩
  case round =>
    obtain ⟨k, hk, rfl, HK, HT⟩ := hrel
    by_cases hlt : k < n
    · obtain ⟨x, hx⟩ : ∃ x, vs[k]? = some x := ⟨vs[k]'(by rw [hlen.out]; exact hlt), by simp [hlen.out, hlt]⟩
      have hrow := HR.out.below HT.out.below hlo
      obtain ⟨b, off, rfl, hblt, hcell⟩ := hrow.lies (by omega)
      obtain ⟨c0, c1, c2⟩ := hrow.at3 hx
      have hxin := HFIT.out x (List.mem_of_getElem? hx)
      have HE : Hid (((l ++ vb n) ++ (vs.take k).flatMap encV) ++ encV x = (l ++ vb n) ++ (vs.take (k + 1)).flatMap encV) := Lib.hid (by rw [List.take_add_one, hx]; simp)
      have HLT : Hid (((l ++ vb n) ++ (vs.take k).flatMap encV).length + 600 ≤ 1099511627776) := Lib.hid (by
        have h1 := flat_len (vs.take k) (fun y hy => HFIT.out y (List.mem_of_mem_take hy))
        have h2 : (vs.take k).length ≤ k := by simp; omega
        have h3 := HL.out
        rw [List.length_append, h3]
        have h4 : (vs.take k).length * 523 ≤ 4096 * 523 := Nat.mul_le_mul_right _ (by omega)
        omega)
      obtain ⟨v2, h2⟩ := HK.out
      have H2 := Lib.hid h2
      have hx1 := hxin.1.k
      have hx2 := hxin.1.lo
      have hx3 := hxin.1.hi
      have hx4 := hxin.2
      clear h2 HK hx hxin hcell hrow
      obtain ⟨xk, xi, xs⟩ := x
      simp only at c0 c1 c2 hx1 hx2 hx3 hx4
      obtain ⟨bx, hbx⟩ : ∃ bx, bx = wr.heap.size := ⟨_, rfl⟩
      go_wp2_with fail
      refine (writerValue_any base B _ v2 xk xi xs hx1 ⟨hx2, hx3⟩ hx4 _ (H2.out.kept (below_alloc _ _)) HLT.out).mono ?_
      rintro e w3 ⟨rfl, ht, v3, h3⟩
      rw [HE.out] at h3
      have H3 : Hid (∃ v', Wr base B ((l ++ vb n) ++ (vs.take (k + 1)).flatMap encV) v' w3) := Lib.hid ⟨v3, h3⟩
      have HT3 := Lib.hid ((HT.out.kept (below_alloc _ _) H2.out.size).trans ht)
      clear ht h3 c0 c1 c2 hbx
      go_wp2
      go_roundw
      case rel => exact ⟨k + 1, by omega, by go_num, H3, HT3⟩
      case measure => simp [RowKit.intOf]; omega
    · obtain rfl : k = n := by omega
      obtain ⟨v2, h2⟩ := HK.out
      rw [List.take_of_length_le (by rw [hlen.out]; omega), List.append_assoc, show vb k ++ vs.flatMap encV = encL vs by unfold encL; rw [hlen.out]] at h2
      have H2 := Lib.hid h2
      clear h2 HK
      go_wp2_with fail
      exact bodyPost_ret (v := .tuple #[]) (by simp [results, go_sem]) rfl ⟨rfl, HT.out, _, H2.out⟩
end Go.Proofs.YtjjfmmimmfihgabGreatDoor
