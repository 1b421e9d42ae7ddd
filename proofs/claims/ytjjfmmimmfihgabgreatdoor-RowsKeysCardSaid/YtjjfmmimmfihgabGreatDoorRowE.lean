/-
  WHAT IS PROVED: values as bytes that stand in their order: Key.
-/
import Derived.Test.YtjjfmmimmfihgabGreatDoorRowD
import Derived.Test.YtjjfmmimmfihgabGreatDoorShelf
import Derived.Lib.AppendStr
namespace Go.Proofs.YtjjfmmimmfihgabGreatDoor
open Go.RowKit Go.Lib
set_option linter.unusedVariables false

/-- what the library's variables hold -/
structure Wm (w : World) : Prop where
  max : ∃ m, w.cell? ⟨0, 0, none⟩ = some (.int .i64 m)
theorem Wm.kept {w w' : World} (h : Wm w) (hb : Below w.heap.size w w') : Wm w' := by
  obtain ⟨m, hm⟩ := h.max
  exact ⟨m, (hb.cell (World.block_lt_of_cell? w _ hm)).trans hm⟩
/-- each c0 another way -/
def twice (c0 : UInt8) (new : List UInt8) (l : List UInt8) : List UInt8 := l.flatMap fun c => if c = c0 then new else [c]
theorem twice_cons (c0 : UInt8) (new : List UInt8) (c : UInt8) (l : List UInt8) : twice c0 new (c :: l) = (if c = c0 then new else [c]) ++ twice c0 new l := rfl
theorem twice_append (c0 : UInt8) (new : List UInt8) (a b : List UInt8) : twice c0 new (a ++ b) = twice c0 new a ++ twice c0 new b := List.flatMap_append
theorem twice_none (c0 : UInt8) (new : List UInt8) : ∀ (l : List UInt8), (∀ c ∈ l, c ≠ c0) → twice c0 new l = l
  | [], _ => rfl
  | c :: l, h => by
    rw [twice_cons, if_neg (h c (by simp)), twice_none c0 new l (fun d hd => h d (by simp [hd]))]; rfl
theorem replaceK_twice (c0 : UInt8) (new : List UInt8) : ∀ (n : Nat) (l : List UInt8), l.length ≤ n → replaceK [c0] new (count l [c0]) l = twice c0 new l
  | n, l, hn => by
    have hone := index_one l c0
    have hge := index_ge l [c0]
    by_cases h : index l [c0] = -1
    · rw [count_miss h]
      rw [hone] at h
      have hno := indexByte_none h
      rw [twice_none c0 new l (fun c hc e => ?_)]
      · rfl
      · obtain ⟨k, hk⟩ := List.mem_iff_getElem?.1 hc
        exact hno k (by rw [hk, e])
    · obtain ⟨i, hi⟩ : ∃ i : Nat, index l [c0] = i := ⟨(index l [c0]).toNat, by omega⟩
      have hi2 := hi
      rw [hone] at hi2
      obtain ⟨h1, h2⟩ := indexByte_some hi2
      have hil : i < l.length := (List.getElem?_eq_some_iff.1 h1).1
      rw [count_hit (by simp) hi, Nat.add_comm, replaceK_hit _ _ _ _ i hi]
      have hd : ([c0] : List UInt8).length = 1 := rfl
      rw [hd]
      cases n with
      | zero => omega
      | succ n =>
        rw [replaceK_twice c0 new n (l.drop (i + 1)) (by simp; omega)]
        have e : l = l.take i ++ c0 :: l.drop (i + 1) := by
          have : l[i] = c0 := by
            have := List.getElem?_eq_getElem hil
            rw [this] at h1; exact Option.some.inj h1
          conv => lhs; rw [← List.take_append_drop i l]
          rw [List.drop_eq_getElem_cons hil, this]
        conv => rhs; rw [e]
        rw [twice_append c0 new, twice_cons, if_pos rfl, twice_none c0 new (l.take i) (fun c hc e => ?_)]
        · simp
        · obtain ⟨k, hk⟩ := List.mem_iff_getElem?.1 hc
          have hki : k < i := by have := (List.getElem?_eq_some_iff.1 hk).1; rw [List.length_take] at this; omega
          rw [List.getElem?_take_of_lt hki] at hk
          exact h2 k hki (by rw [hk, e])
/-- as the library's function says it -/
theorem replace_twice (c0 : UInt8) (new : List UInt8) (l : List UInt8) (h : [c0] ≠ new) : replaceAll l [c0] new = twice c0 new l := by
  unfold replaceAll replace replaceNum
  rw [if_neg (by simp; exact h), if_pos (by left; decide)]
  exact replaceK_twice c0 new l.length l (Nat.le_refl _)
/-- a text's bytes in a key, but for the two that end it -/
def escS (s : ByteArray) : ByteArray := ⟨(twice 0 [0, 255] s.data.toList).toArray⟩
theorem twice_len (l : List UInt8) : (twice 0 [0, 255] l).length ≤ 2 * l.length := by
  induction l with
  | nil => simp [twice]
  | cons c r ih =>
    rw [twice_cons, List.length_append, List.length_cons]
    split <;> simp <;> omega
theorem escS_size (s : ByteArray) : (escS s).size ≤ 2 * s.size := twice_len s.data.toList
theorem replaceZ_any (s : ByteArray) (hs : s.size ≤ 512) (w : World) (hw : Wm w) :
    Calls Tryz.prog 29 #[.string s, .string ⟨#[0]⟩, .string ⟨#[0, 255]⟩] w fun e w' => e = .returned (.string (escS s)) ∧ Below w.heap.size w w' := by
  obtain ⟨m, hm⟩ := hw.max
  have hc := countB_mul_le ⟨#[0]⟩ (by decide) s.size s (Nat.le_refl _)
  have h1 : (⟨#[0]⟩ : ByteArray).size = 1 := rfl
  have h2 : (⟨#[0, 255]⟩ : ByteArray).size = 2 := rfl
  rw [h1] at hc
  have := Tryz.strings_ReplaceAll s ⟨#[0]⟩ ⟨#[0, 255]⟩ m w (by omega) hm (by decide) (by rw [h2]; omega)
  have he : replaceAll s.data.toList (⟨#[0]⟩ : ByteArray).data.toList (⟨#[0, 255]⟩ : ByteArray).data.toList = twice 0 [0, 255] s.data.toList := replace_twice 0 [0, 255] _ (by decide)
  rw [he] at this
  exact this
theorem strCells_8 (s : ByteArray) : strCells s = cells8 (strN s) := by
  unfold strCells cells8 strN
  simp [List.map_map, Function.comp_def]
theorem strN_append (s t : ByteArray) : strN (s ++ t) = strN s ++ strN t := by simp [strN]
/-- a value's key -/
def keyV (x : Val) : List Nat := x.k :: (if x.k = 1 then riseB x.i else if x.k = 2 then strN (escS x.s) ++ [0, 0] else [])
def keyL (vs : List Val) : List Nat := vs.flatMap keyV
theorem riseB_len (i : Int) : (riseB i).length = 8 := rfl
theorem riseB_byte (i : Int) : ∀ x ∈ riseB i, x < 256 := by intro x hx; unfold riseB at hx; simp at hx; omega
theorem keyV_len (x : Val) (hs : x.s.size ≤ 512) : (keyV x).length ≤ 1027 := by
  have h1 := escS_size x.s
  have h2 := strN_length (escS x.s)
  unfold keyV
  split
  · simp [riseB_len]
  · split
    · simp; omega
    · simp
theorem keyV_byte (x : Val) (h : x.In) : ∀ c ∈ keyV x, c < 256 := by
  intro c hc
  unfold keyV at hc
  rcases List.mem_cons.1 hc with rfl | hc
  · exact h.k
  · split at hc
    · exact riseB_byte _ c hc
    · split at hc
      · rcases List.mem_append.1 hc with hc | hc
        · exact strN_byte _ c hc
        · simp at hc; omega
      · cases hc
theorem keyL_len (vs : List Val) (h : ∀ x ∈ vs, x.s.size ≤ 512) : (keyL vs).length ≤ vs.length * 1027 := by
  induction vs with
  | nil => simp [keyL]
  | cons x r ih =>
    have h1 := keyV_len x (h x (List.mem_cons_self ..))
    have h2 := ih (fun y hy => h y (List.mem_cons_of_mem _ hy))
    unfold keyL at h2 ⊢
    simp only [List.flatMap_cons, List.length_append, List.length_cons]
    omega
theorem keyL_byte (vs : List Val) (h : ∀ x ∈ vs, x.In) : ∀ c ∈ keyL vs, c < 256 := by
  intro c hc
  obtain ⟨x, hx, hc⟩ := List.mem_flatMap.1 hc
  exact keyV_byte x (h x hx) c hc
set_option maxRecDepth 100000 in
set_option maxHeartbeats 8000000 in
theorem rkey_ok (ao : Option Addr) (n cap : Nat) (vs : List Val) (w : World) (hw : Wm w) (hr : RowV w ao n cap vs) (hc : chkV vs = 0) :
    Calls Tryz.prog 10 #[.slice ao n cap] w (Good8 w (keyL vs)) := by
  obtain ⟨i0, hi, hz0, hz1, hz2⟩ := info_parts Tryz.info8
  have HR := Lib.hid hr
  have HW := Lib.hid hw
  have hok := chkV_ok hc
  have hlen := Lib.hid hr.len
  have hroom := hr.room
  have hmost := hr.most
  have HF := Lib.hid (fun x (hx : x ∈ vs) => Val.fine_size' (hok.2 x hx))
  have HIN := Lib.hid hr.each
  have h16 : n ≤ 16 := by have := hr.len; omega
  clear hok hr hw
  go_enter Tryz.func10, Tryz.ntmps10
  go_wp2_with fail
  refine (rcheckV_any ao n cap vs _ HR.out).mono ?_
  rw [hc]
  rintro e w1 ⟨rfl, hb⟩
  have HB1 := Lib.hid hb
  clear hb hc
  go_wp2_with fail
  go_loopw [5, 15] (fun v i wr => ∃ k : Nat, k ≤ n ∧ i = .int .i64 k ∧ Hid (wr.ownsRow w.heap.size 5 1 v (keyL (vs.take k)).length (cells8 (keyL (vs.take k)))) ∧ Hid (Below w.heap.size w wr)) (fun _ i _ => n - (RowKit.intOf i).toNat)
  case atStart => exact ⟨0, by omega, rfl, Lib.hid (World.ownsRow_nil _ _ _ _), HB1⟩
  case round =>
    obtain ⟨k, hk, rfl, HO, HB⟩ := hrel
    by_cases hlt : k < n
    · obtain ⟨x, hx⟩ : ∃ x, vs[k]? = some x := ⟨vs[k]'(by rw [hlen.out]; exact hlt), by simp [hlen.out, hlt]⟩
      have hrow := HR.out.kept HB.out
      obtain ⟨b, off, rfl, hblt, hcell⟩ := hrow.lies (by omega)
      obtain ⟨c0, c1, c2⟩ := hrow.at3 hx
      have hxm := List.mem_of_getElem? hx
      have hx1 := (HIN.out x hxm).k
      have hx2 := (HIN.out x hxm).lo
      have hx3 := (HIN.out x hxm).hi
      have hx4 := HF.out x hxm
      have HE : Hid (keyL (vs.take (k + 1)) = keyL (vs.take k) ++ keyV x) := Lib.hid (by unfold keyL; rw [List.take_add_one, hx]; simp)
      have hkl : (keyL (vs.take k)).length ≤ 16 * 1027 := by
        have h1 := keyL_len (vs.take k) (fun y hy => HF.out y (List.mem_of_mem_take hy))
        have h2 : (vs.take k).length ≤ 16 := by simp; omega
        omega
      obtain ⟨L, hL⟩ : ∃ L, L = keyL (vs.take k) := ⟨_, rfl⟩
      rw [← hL] at HO HE hkl
      clear hx hxm hcell hrow hL
      obtain ⟨xk, xi, xs⟩ := x
      simp only at c0 c1 c2 hx1 hx2 hx3 hx4
      obtain ⟨bx, hbx⟩ : ∃ bx, bx = wr.heap.size := ⟨_, rfl⟩
      obtain ⟨w2, hw2⟩ : ∃ w2, w2 = wr.alloc (.cells #[.int .u8 (xk : Int), .int .i64 xi, .string xs] 25) := ⟨_, rfl⟩
      have HX2 : Hid (w2.heap[bx]? = some (.cells #[.int .u8 (xk : Int), .int .i64 xi, .string xs] 25 (0, 0))) := Lib.hid (by rw [hw2, hbx]; exact heap_alloc_new wr _)
      have HO2 := Lib.hid (show w2.ownsRow w.heap.size 5 1 _ L.length (cells8 L) by rw [hw2]; exact HO.out.alloc _)
      have HB2 : Hid (Below w.heap.size w w2) := Lib.hid (by rw [hw2]; exact HB.out.alloc HB.out.size _)
      have hsz2 : w2.heap.size = bx + 1 := by rw [hw2, hbx]; simp
      have HNE := Lib.hid (fun j (hj : _ = some j) => (HO.out.lt j hj).2)
      have HRow := Lib.hid (row_new w2 [xk] 1 (bx + 1) (0, 0) hsz2 rfl (by intro y hy; simp at hy; omega) (by omega))
      go_wp2_with (at_builtin; rw [← hw2, ← hbx]; refine wpList_append_row rfl (.tmp 19) (.tmp 22) rfl w.heap.size _ L.length L rfl (HO2.out.alloc _) (some ⟨bx + 1, 0, none⟩) 1 1 [xk] rfl HRow.out (by omega) (by have := HB2.out.size; simp; omega) ?_)
      intro v3 w3 hown hg
      rw [← hw2] at hg
      rw [← hbx]
      have HX3 : Hid (w3.heap[bx]? = some (.cells #[.int .u8 (xk : Int), .int .i64 xi, .string xs] 25 (0, 0))) := Lib.hid ((hg.block bx (by simp [hsz2]; omega) (fun e => by have := HNE.out bx e.symm; omega)).trans (((below_alloc w2 _).block bx (by omega)).trans HX2.out))
      have HB3 : Hid (Below w.heap.size w w3) := Lib.hid ((HB2.out.alloc HB2.out.size _).grown hg (by have := HB2.out.size; simp; omega) (fun j hj => (HO2.out.lt j hj).1))
      have HO3 : Hid (w3.ownsRow w.heap.size 5 1 v3 (L.length + 1) (cells8 (L ++ [xk]))) := Lib.hid hown
      clear hown hg HX2 HO2 HB2 HNE HRow c0 c1 c2 hw2 hbx hsz2 HO HB
      have c0 : w3.cell? ⟨bx, 0, none⟩ = some (.int .u8 (xk : Int)) := cell_of_block HX3.out 0
      have c1 : w3.cell? ⟨bx, 1, none⟩ = some (.int .i64 xi) := cell_of_block HX3.out 1
      have c2 : w3.cell? ⟨bx, 2, none⟩ = some (.string xs) := cell_of_block HX3.out 2
      by_cases h1 : xk = 1
      · have k1 : ((xk : Int) == 1) = true := by subst h1; rfl
        have HE4 : Hid (((L ++ [xk]) ++ riseB xi) = keyL (vs.take (k + 1))) := Lib.hid (by rw [HE.out]; unfold keyV; rw [if_pos h1]; simp)
        clear h1
        go_wp2_with fail
        refine (rising_any xi ⟨hx2, hx3⟩ w3).mono ?_
        rintro e w4 ⟨ra, rn, rc, rfl, hrow, hnew, hb⟩
        have hl8 := hrow.len
        rw [riseB_len] at hl8
        have HL8 := Lib.hid hl8
        clear hl8
        have HB4 := Lib.hid (below_next HB3.out hb)
        have HO4 := Lib.hid (own_under HO3.out hb)
        have HRow4 := Lib.hid hrow
        clear hb hrow hnew
        go_wp2_with (at_builtin; refine wpList_append_row rfl (.tmp 28) (.tmp 31) rfl w.heap.size v3 (L.length + 1) (L ++ [xk]) rfl HO4.out ra rn rc (riseB xi) rfl HRow4.out (by have := HL8.out; omega) HB4.out.size ?_)
        intro v5 w5 hown hg
        have HB5 := Lib.hid (HB4.out.grown hg HB4.out.size (fun j hj => (HO4.out.lt j hj).1))
        have HO5 : Hid (w5.ownsRow w.heap.size 5 1 v5 (keyL (vs.take (k + 1))).length (cells8 (keyL (vs.take (k + 1))))) := Lib.hid (by
          rw [← HE4.out]
          have hl : (L ++ [xk] ++ riseB xi).length = L.length + 1 + rn := by have := HL8.out; rw [List.length_append, riseB_len]; simp; omega
          rw [hl, List.append_assoc]; exact hown)
        clear hown hg
        go_wp2
        go_roundw
        case rel => exact ⟨k + 1, by omega, by go_num, HO5, HB5⟩
        case measure => simp [RowKit.intOf]; omega
      · have k1 : ((xk : Int) == 1) = false := by rw [beq_eq_false_iff_ne]; omega
        by_cases h2 : xk = 2
        · have k2 : ((xk : Int) == 2) = true := by subst h2; rfl
          have hes := escS_size xs
          have HE4 : Hid (((L ++ [xk]) ++ strN (((escS xs) ++ ⟨#[0]⟩) ++ ⟨#[0]⟩)) = keyL (vs.take (k + 1))) := Lib.hid (by
            rw [HE.out, strN_append, strN_append]; unfold keyV; rw [if_neg h1, if_pos h2]
            have h0 : strN (⟨#[0]⟩ : ByteArray) = [0] := rfl
            rw [h0]; simp)
          have hsz5 : ((escS xs) ++ (⟨#[0]⟩ : ByteArray)).size = (escS xs).size + 1 := by rw [ByteArray.size_append]; rfl
          have hsz6 : (((escS xs) ++ (⟨#[0]⟩ : ByteArray)) ++ (⟨#[0]⟩ : ByteArray)).size = (escS xs).size + 2 := by rw [ByteArray.size_append, hsz5]; rfl
          have R1 : ¬ 9223372036854775807 < (escS xs).size + 1 := by omega
          have R2 : ¬ 9223372036854775807 < (escS xs).size + 1 + 1 := by omega
          clear h1 h2
          go_wp2_with fail
          refine (replaceZ_any xs hx4 w3 (HW.out.kept HB3.out)).mono ?_
          rintro e w4 ⟨rfl, hb⟩
          have HB4 := Lib.hid (below_next HB3.out hb)
          have HO4 := Lib.hid (own_under HO3.out hb)
          clear hb
          go_wp2_with (at_builtin; refine wpList_append_own_string _ rfl (.tmp 35) (.tmp 40) 29 9 rfl w.heap.size 5 i0 Tryz.underlying29 Tryz.underlying9 hi hz0 hz1 hz2 v3 (L.length + 1) (cells8 (L ++ [xk])) rfl HO4.out (((escS xs) ++ ⟨#[0]⟩) ++ ⟨#[0]⟩) rfl (by rw [hsz6]; unfold maxLen; omega) (by rw [hsz6]; omega) HB4.out.size ?_)
          intro v5 w5 hown hg _
          have HB5 := Lib.hid (HB4.out.grown hg HB4.out.size (fun j hj => (HO4.out.lt j hj).1))
          have HO5 : Hid (w5.ownsRow w.heap.size 5 1 v5 (keyL (vs.take (k + 1))).length (cells8 (keyL (vs.take (k + 1))))) := Lib.hid (by
            rw [← HE4.out]
            have hl : (L ++ [xk] ++ strN (((escS xs) ++ ⟨#[0]⟩) ++ ⟨#[0]⟩)).length = L.length + 1 + (((escS xs) ++ (⟨#[0]⟩ : ByteArray)) ++ (⟨#[0]⟩ : ByteArray)).size := by rw [List.length_append, strN_length]; simp
            rw [hl, ← cells8_append, ← strCells_8, hsz6]; exact hown)
          clear hown hg
          go_wp2
          go_roundw
          case rel => exact ⟨k + 1, by omega, by go_num, HO5, HB5⟩
          case measure => simp [RowKit.intOf]; omega
        · have k2 : ((xk : Int) == 2) = false := by rw [beq_eq_false_iff_ne]; omega
          have HE4 : Hid ((L ++ [xk]) = keyL (vs.take (k + 1))) := Lib.hid (by rw [HE.out]; unfold keyV; rw [if_neg h1, if_neg h2])
          have HO5 : Hid (w3.ownsRow w.heap.size 5 1 v3 (keyL (vs.take (k + 1))).length (cells8 (keyL (vs.take (k + 1))))) := Lib.hid (by
            rw [← HE4.out]
            have hl : (L ++ [xk]).length = L.length + 1 := by simp
            rw [hl]; exact HO3.out)
          clear h1 h2
          go_wp2
          go_roundw
          case rel => exact ⟨k + 1, by omega, by go_num, HO5, HB3⟩
          case measure => simp [RowKit.intOf]; omega
    · obtain rfl : k = n := by omega
      have h1 := HO.out
      rw [List.take_of_length_le (by rw [hlen.out]; omega)] at h1
      obtain ⟨ao3, c3, rfl, hr3, hn3⟩ := Row8.of_owns h1 (keyL_byte vs HIN.out)
      have H3 := Lib.hid (And.intro hr3 (And.intro hn3 HB.out))
      clear h1 hr3 hn3 HO
      go_wp2_with fail
      go_ret2
      exact ⟨_, _, _, rfl, H3.out.1, H3.out.2.1, H3.out.2.2⟩
theorem rkey_no (ao : Option Addr) (n cap : Nat) (vs : List Val) (er : Nat) (w : World) (hr : RowV w ao n cap vs) (hc : chkV vs = er) (he : er ≠ 0) :
    Calls Tryz.prog 10 #[.slice ao n cap] w (Bad8 w er) := by
  have HR := Lib.hid hr
  have h0 : ((er : Int) != 0) = true := by simpa using he
  clear hr he
  go_enter Tryz.func10, Tryz.ntmps10
  go_wp2_with fail
  refine (rcheckV_any ao n cap vs _ HR.out).mono ?_
  rw [hc]
  rintro e w1 ⟨rfl, hb⟩
  have HB1 := Lib.hid hb
  clear hb hc
  go_wp2_with fail
  go_ret2
  exact ⟨rfl, HB1.out⟩
end Go.Proofs.YtjjfmmimmfihgabGreatDoor
