/-
  WHAT IS PROVED: the answers that the document fixes, of rows: alive says yes.
-/
import Derived.Test.YtjjfmmimmfihgabGreatDoorRowK
namespace Go.Proofs.YtjjfmmimmfihgabGreatDoor
open Go.RowKit Go.Lib
set_option linter.unusedVariables false

theorem n5_any (i : Int) (w : World) :
    Calls Tryz.prog 22 #[.int .i64 i] w fun e w' => e = .returned (.agg #[.int .u8 1, .int .i64 i, .string ⟨#[]⟩]) ∧ Below w.heap.size w w' := by
  go_enter Tryz.func22, Tryz.ntmps22
  go_wp2
  exact bodyPost_ret (v := .agg #[.int .u8 1, .int .i64 i, .string ⟨#[]⟩]) (by simp [results, go_sem]) rfl ⟨rfl, below_alloc _ _⟩
theorem s5_any (s : ByteArray) (w : World) :
    Calls Tryz.prog 23 #[.string s] w fun e w' => e = .returned (.agg #[.int .u8 2, .int .i64 0, .string s]) ∧ Below w.heap.size w w' := by
  go_enter Tryz.func23, Tryz.ntmps23
  go_wp2
  exact bodyPost_ret (v := .agg #[.int .u8 2, .int .i64 0, .string s]) (by simp [results, go_sem]) rfl ⟨rfl, below_alloc _ _⟩
theorem flat_get {α : Type} {cells : α → List Value} {sz : Nat} (hsz : ∀ x, (cells x).length = sz) : ∀ (l : List α) (i : Nat) (x : α), l[i]? = some x → ∀ j v, (cells x)[j]? = some v → (l.flatMap cells)[i * sz + j]? = some v
  | [], i, x, h, _, _, _ => by simp at h
  | y :: r, 0, x, h, j, v, hv => by
    simp at h
    subst h
    have hj : j < (cells y).length := (List.getElem?_eq_some_iff.1 hv).1
    rw [List.flatMap_cons, Nat.zero_mul, Nat.zero_add, List.getElem?_append_left hj]
    exact hv
  | y :: r, i + 1, x, h, j, v, hv => by
    rw [List.flatMap_cons, List.getElem?_append_right (by rw [hsz, Nat.add_mul]; omega), hsz, Nat.add_mul, show i * sz + 1 * sz + j - sz = i * sz + j by omega]
    exact flat_get hsz r i x (by simpa using h) j v hv
theorem rowG_new {α : Type} {cells : α → List Value} {sz : Nat} (hsz : ∀ x, (cells x).length = sz) (w : World) (b : Nat) (l : List α) (t : TypeId) (fr : Nat × Nat) (h : w.heap[b]? = some (.cells (l.flatMap cells).toArray t fr)) (n : Nat) (hn : l.length = n) (hm : n ≤ 1000000) : RowG cells sz w (some ⟨b, 0, none⟩) n n l := by
  refine ⟨hn, Nat.le_refl _, by omega, (fun h => by cases h), fun a ha i x hx j v hv => ?_⟩
  obtain rfl := Option.some.inj ha
  have e : (⟨b, 0, none⟩ : Addr).add (i * sz + j) = ⟨b, i * sz + j, none⟩ := by rw [Addr.add_lit, Nat.zero_add]
  rw [e]
  refine (cell_of_block h _).trans ?_
  rw [List.getElem?_toArray]
  exact flat_get hsz l i x hx j v hv
theorem RowV.of {w : World} {ao : Option Addr} {n cap : Nat} {l : List Val} (h : RowG Val.cells3 3 w ao n cap l) (he : ∀ x ∈ l, x.In) : RowV w ao n cap l := ⟨h.len, h.room, h.most, h.nil, h.cell, he⟩
theorem rowV_nil (w : World) : RowV w none 0 0 [] := RowV.of (rowG_nil w) (fun _ h => by cases h)
theorem conv_at {w : World} {ao : Option Addr} {n cap : Nat} {l : List Nat} {s : ByteArray} (h : Row8 w ao n cap l) (hs : strB l = s) :
    (convert 29 9 (.slice ao n cap)).run Tryz.prog w = .ok (.string s) w := by rw [← hs]; exact conv_row h
def al1 : List Val := [⟨0, 0, ⟨#[]⟩⟩, ⟨1, -1, ⟨#[]⟩⟩, ⟨2, 0, ⟨#[97, 98]⟩⟩]
def al3 : List Val := [⟨0, 0, ⟨#[]⟩⟩, ⟨1, 1, ⟨#[]⟩⟩]
def al4 : List Val := [⟨2, 0, ⟨#[97, 0]⟩⟩]
def alC : List ColM := [⟨⟨#[105, 100]⟩, 1, true, false, false⟩, ⟨⟨#[98]⟩, 2, false, true, true⟩]
def alX : List IdxM := [⟨⟨#[105]⟩, 1⟩]
theorem in_of (k : Nat) (i : Int) (s : ByteArray) (h : k < 256) (h1 : -9223372036854775808 ≤ i) (h2 : i ≤ 9223372036854775807) (h3 : s.size ≤ 140737488351232) : (⟨k, i, s⟩ : Val).In := ⟨h, h1, h2, h3⟩
theorem al1_in : ∀ x ∈ al1, x.In := by
  intro x hx
  simp only [al1, List.mem_cons, List.not_mem_nil, or_false] at hx
  rcases hx with rfl | rfl | rfl <;> exact in_of _ _ _ (by omega) (by omega) (by omega) (by decide)
theorem al3_in : ∀ x ∈ al3, x.In := by
  intro x hx
  simp only [al3, List.mem_cons, List.not_mem_nil, or_false] at hx
  rcases hx with rfl | rfl <;> exact in_of _ _ _ (by omega) (by omega) (by omega) (by decide)
theorem al4_in : ∀ x ∈ al4, x.In := by
  intro x hx
  simp only [al4, List.mem_cons, List.not_mem_nil, or_false] at hx
  subst hx
  exact in_of _ _ _ (by omega) (by omega) (by omega) (by decide)
theorem alT : FitsT ⟨#[116]⟩ alC alX := ⟨by decide, by decide, by decide, by decide, by decide⟩
theorem v_small {n : Nat} (h : n < 128) : vb n = [n] := vb_low h
theorem al1_enc : encL al1 = [3, 0, 1, 1, 2, 2, 97, 98] := by
  have h1 : vb 3 = [3] := vb_low (by omega)
  have h2 : vb 1 = [1] := vb_low (by omega)
  have h3 : vb 2 = [2] := vb_low (by omega)
  show vb 3 ++ (encV ⟨0, 0, ⟨#[]⟩⟩ ++ (encV ⟨1, -1, ⟨#[]⟩⟩ ++ (encV ⟨2, 0, ⟨#[97, 98]⟩⟩ ++ []))) = _
  show vb 3 ++ ((0 :: []) ++ ((1 :: vb 1) ++ ((2 :: (vb 2 ++ [97, 98])) ++ []))) = _
  rw [h1, h2, h3]
  rfl
theorem al2_enc : encL [] = [0] := by
  show vb 0 ++ [] = _
  rw [vb_low (by omega)]
  rfl
theorem al3_key : keyL al3 = [0, 1, 128, 0, 0, 0, 0, 0, 0, 1] := by decide
theorem al4_key : keyL al4 = [2, 97, 0, 255, 0, 0] := by decide
theorem alT_enc : encT ⟨#[116]⟩ alC alX = [1, 116, 2, 2, 105, 100, 1, 1, 1, 98, 2, 6, 1, 1, 105, 1] := by
  have h2 : vb 1 = [1] := vb_low (by omega)
  have h3 : vb 2 = [2] := vb_low (by omega)
  show (vb 1 ++ [116]) ++ (vb 2 ++ (((vb 2 ++ [105, 100]) ++ [1, 1]) ++ (((vb 1 ++ [98]) ++ [2, 6]) ++ []))) ++ (vb 1 ++ (((vb 1 ++ [105]) ++ vb 1) ++ [])) = _
  rw [h2, h3]
  rfl
set_option maxRecDepth 100000 in
set_option maxHeartbeats 16000000 in
theorem alive5_yes (w : World) (hw : Wm w) :
    Calls Tryz.prog 7 #[] w fun e w' => e = .returned (.bool true) ∧ Below w.heap.size w w' := by
  have HW : Hid (∀ x, Below w.heap.size w x → Wm x) := Lib.hid (fun _ h => hw.kept h)
  have HB0 := Lib.hid (Below.refl w.heap.size w)
  clear hw
  go_enter Tryz.func7, Tryz.ntmps7
  go_wp2_with fail
  refine (n5_any (-1) _).mono ?_
  rintro e w1 ⟨rfl, hb⟩
  have hk : Below w.heap.size w w1 := hb
  have HB1 := Lib.hid (below_next HB0.out hk)
  clear hb hk
  go_wp2_with fail
  refine (s5_any _ _).mono ?_
  rintro e w2 ⟨rfl, hb⟩
  have hk : Below w1.heap.size w1 w2 := hb
  have HB2 := Lib.hid (below_next HB1.out hk)
  clear hb hk HB1
  go_wp2_with fail
  refine (rput_ok _ 3 3 al1 _ (RowV.of (rowG_new (cells := Val.cells3) (fun _ => rfl) _ w2.heap.size al1 25 (0, 0) (heap_alloc_new w2 _) 3 rfl (by omega)) al1_in) rfl).mono ?_
  rintro e w3 ⟨a_a, n_a, c_a, rfl, hr, _, hb⟩
  have Ha_3 := Lib.hid hr
  clear hr
  have hk : Below w2.heap.size w2 w3 := (below_alloc _ _).trans (hb.mono (by simp))
  have HB3 := Lib.hid (below_next HB2.out hk)
  clear hb hk HB2
  go_wp2_with fail
  refine (rput_ok none 0 0 [] _ (rowV_nil _) rfl).mono ?_
  rintro e w4 ⟨a_b, n_b, c_b, rfl, hr, _, hb⟩
  have Hb_4 := Lib.hid hr
  clear hr
  have hk : Below w3.heap.size w3 w4 := hb
  have HB4 := Lib.hid (below_next HB3.out hk)
  have Ha_4 := Lib.hid (Ha_3.out.kept hk)
  clear Ha_3
  clear hb hk HB3
  go_wp2_with fail
  refine (n5_any 1 _).mono ?_
  rintro e w5 ⟨rfl, hb⟩
  have hk : Below w4.heap.size w4 w5 := hb
  have HB5 := Lib.hid (below_next HB4.out hk)
  have Ha_5 := Lib.hid (Ha_4.out.kept hk)
  have Hb_5 := Lib.hid (Hb_4.out.kept hk)
  clear Ha_4 Hb_4
  clear hb hk HB4
  go_wp2_with fail
  refine (rkey_ok _ 2 2 al3 _ (HW.out _ (HB5.out.alloc HB5.out.size _)) (RowV.of (rowG_new (cells := Val.cells3) (fun _ => rfl) _ w5.heap.size al3 25 (0, 0) (heap_alloc_new w5 _) 2 rfl (by omega)) al3_in) rfl).mono ?_
  rintro e w6 ⟨a_c, n_c, c_c, rfl, hr, _, hb⟩
  have Hc_6 := Lib.hid hr
  clear hr
  have hk : Below w5.heap.size w5 w6 := (below_alloc _ _).trans (hb.mono (by simp))
  have HB6 := Lib.hid (below_next HB5.out hk)
  have Ha_6 := Lib.hid (Ha_5.out.kept hk)
  have Hb_6 := Lib.hid (Hb_5.out.kept hk)
  clear Ha_5 Hb_5
  clear hb hk HB5
  go_wp2_with fail
  refine (s5_any _ _).mono ?_
  rintro e w7 ⟨rfl, hb⟩
  have hk : Below w6.heap.size w6 w7 := hb
  have HB7 := Lib.hid (below_next HB6.out hk)
  have Ha_7 := Lib.hid (Ha_6.out.kept hk)
  have Hb_7 := Lib.hid (Hb_6.out.kept hk)
  have Hc_7 := Lib.hid (Hc_6.out.kept hk)
  clear Ha_6 Hb_6 Hc_6
  clear hb hk HB6
  go_wp2_with fail
  refine (rkey_ok _ 1 1 al4 _ (HW.out _ (HB7.out.alloc HB7.out.size _)) (RowV.of (rowG_new (cells := Val.cells3) (fun _ => rfl) _ w7.heap.size al4 25 (0, 0) (heap_alloc_new w7 _) 1 rfl (by omega)) al4_in) rfl).mono ?_
  rintro e w8 ⟨a_d, n_d, c_d, rfl, hr, _, hb⟩
  have Hd_8 := Lib.hid hr
  clear hr
  have hk : Below w7.heap.size w7 w8 := (below_alloc _ _).trans (hb.mono (by simp))
  have HB8 := Lib.hid (below_next HB7.out hk)
  have Ha_8 := Lib.hid (Ha_7.out.kept hk)
  have Hb_8 := Lib.hid (Hb_7.out.kept hk)
  have Hc_8 := Lib.hid (Hc_7.out.kept hk)
  clear Ha_7 Hb_7 Hc_7
  clear hb hk HB7
  go_wp2_with fail
  refine (putTable_ok ⟨#[116]⟩ (some ⟨w8.heap.size, 0, none⟩) 2 2 alC (some ⟨w8.heap.size + 1, 0, none⟩) 1 1 alX _ (RowG.below (rowG_new (cells := ColM.cells) (fun _ => rfl) (w8.alloc (.cells (alC.flatMap ColM.cells).toArray 56)) w8.heap.size alC 56 (0, 0) (heap_alloc_new w8 _) 2 rfl (by omega)) (below_alloc _ _) (fun a ha _ => by cases ha; simp)) (rowG_new (cells := IdxM.cells) (fun _ => rfl) _ (w8.heap.size + 1) alX 58 (0, 0) (block_new2 w8 (.cells (alC.flatMap ColM.cells).toArray 56) _) 1 rfl (by omega)) alT).mono ?_
  rintro e w9 ⟨a_t, n_t, c_t, rfl, hr, _, hb⟩
  have Ht_9 := Lib.hid hr
  clear hr
  have hk : Below w8.heap.size w8 w9 := ((below_alloc _ _).alloc (by simp) _).trans (hb.mono (by simp; omega))
  have HB9 := Lib.hid (below_next HB8.out hk)
  have Ha_9 := Lib.hid (Ha_8.out.kept hk)
  have Hb_9 := Lib.hid (Hb_8.out.kept hk)
  have Hc_9 := Lib.hid (Hc_8.out.kept hk)
  have Hd_9 := Lib.hid (Hd_8.out.kept hk)
  clear Ha_8 Hb_8 Hc_8 Hd_8
  clear hb hk HB8
  go_wp2_with fail
  refine (putOutcome_nil 14 2 (by omega) (by omega) _).mono ?_
  rintro e w10 ⟨a_o, n_o, c_o, rfl, hr, _, hb⟩
  have Ho_10 := Lib.hid hr
  clear hr
  have hk : Below w9.heap.size w9 w10 := hb
  have HB10 := Lib.hid (below_next HB9.out hk)
  have Ha_10 := Lib.hid (Ha_9.out.kept hk)
  have Hb_10 := Lib.hid (Hb_9.out.kept hk)
  have Hc_10 := Lib.hid (Hc_9.out.kept hk)
  have Hd_10 := Lib.hid (Hd_9.out.kept hk)
  have Ht_10 := Lib.hid (Ht_9.out.kept hk)
  clear Ha_9 Hb_9 Hc_9 Hd_9 Ht_9
  clear hb hk HB9
  go_wp2_with fail
  refine (rget_bad _ 2 2 [1, 7] _ (row_new w10 [1, 7] 2 w10.heap.size (0, 0) rfl rfl (by intro y hy; simp at hy; omega) (by omega)) (Or.inl ⟨7, by omega, by omega, by decide, rfl⟩)).mono ?_
  rintro e w11 ⟨rfl, hb⟩
  have hk : Below w10.heap.size w10 w11 := (below_alloc _ _).trans (hb.mono (by simp))
  have HB11 := Lib.hid (below_next HB10.out hk)
  have Ha_11 := Lib.hid (Ha_10.out.kept hk)
  have Hb_11 := Lib.hid (Hb_10.out.kept hk)
  have Hc_11 := Lib.hid (Hc_10.out.kept hk)
  have Hd_11 := Lib.hid (Hd_10.out.kept hk)
  have Ht_11 := Lib.hid (Ht_10.out.kept hk)
  have Ho_11 := Lib.hid (Ho_10.out.kept hk)
  clear Ha_10 Hb_10 Hc_10 Hd_10 Ht_10 Ho_10
  clear hb hk HB10
  go_wp2_with fail
  refine (rget_bad _ 2 2 [0, 0] _ (row_new w11 [0, 0] 2 w11.heap.size (0, 0) rfl rfl (by intro y hy; simp at hy; omega) (by omega)) (Or.inr ⟨by decide, by decide⟩)).mono ?_
  rintro e w12 ⟨rfl, hb⟩
  have hk : Below w11.heap.size w11 w12 := (below_alloc _ _).trans (hb.mono (by simp))
  have HB12 := Lib.hid (below_next HB11.out hk)
  have Ha_12 := Lib.hid (Ha_11.out.kept hk)
  have Hb_12 := Lib.hid (Hb_11.out.kept hk)
  have Hc_12 := Lib.hid (Hc_11.out.kept hk)
  have Hd_12 := Lib.hid (Hd_11.out.kept hk)
  have Ht_12 := Lib.hid (Ht_11.out.kept hk)
  have Ho_12 := Lib.hid (Ho_11.out.kept hk)
  clear Ha_11 Hb_11 Hc_11 Hd_11 Ht_11 Ho_11
  clear hb hk HB11
  have v_a := conv_at (s := ⟨#[3, 0, 1, 1, 2, 2, 97, 98]⟩) Ha_12.out (by rw [al1_enc]; decide)
  have v_b := conv_at (s := ⟨#[0]⟩) Hb_12.out (by rw [al2_enc]; decide)
  have v_c := conv_at (s := ⟨#[0, 1, 128, 0, 0, 0, 0, 0, 0, 1]⟩) Hc_12.out (by rw [al3_key]; decide)
  have v_d := conv_at (s := ⟨#[2, 97, 0, 255, 0, 0]⟩) Hd_12.out (by rw [al4_key]; decide)
  have v_t := conv_at (s := ⟨#[1, 116, 2, 2, 105, 100, 1, 1, 1, 98, 2, 6, 1, 1, 105, 1]⟩) Ht_12.out (by rw [alT_enc]; decide)
  have v_o := conv_at (s := ⟨#[14, 2, 0]⟩) Ho_12.out (by decide)
  go_wp2
  go_ret
  exact ⟨rfl, HB12.out⟩
end Go.Proofs.YtjjfmmimmfihgabGreatDoor
